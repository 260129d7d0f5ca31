/- The library's choice of a pivot, walked: its parts. -/
import Derived.Test.YtodoenimlhldjaaQHeaps
namespace Go.Proofs.Ytodoenimlhldjaa
open Go.ChangeShapes Go.WideShapes Go.ChangeAt Go.RowKit
set_option linter.unusedVariables false
/-- A number that is counted. -/
def Cnt (w : World) (sb : Nat) (z : Int) : Prop := w.heap[sb]? = some (.cells #[.int .i64 z] 3 (0, 0))
theorem Cnt.drewN {w : World} {sb : Nat} {z : Int} (h : Cnt w sb z) (n : Nat) : Cnt (w.drewN n) sb z := h
theorem Cnt.cell {w : World} {sb : Nat} {z : Int} (h : Cnt w sb z) : w.cell? ⟨sb, 0, none⟩ = some (.int .i64 z) := by
  rw [cell_of_row _ _ _ _ _ _ h]; rfl
theorem Cnt.thaw {w : World} {sb : Nat} {z : Int} (h : Cnt w sb z) : w.frozen? ⟨sb, 0, none⟩ = false := frozen_of_row _ _ _ _ _ h
theorem Cnt.set {w : World} {sb : Nat} {z : Int} (h : Cnt w sb z) (x : Int) : Cnt (w.setCell ⟨sb, 0, none⟩ (.int .i64 x)) sb x := by
  unfold Cnt
  rw [heap_setCell_same _ _ _ _ _ _ h]; rfl
theorem Srow.only {w w' : World} {g sb : Nat} {d : List Nat} {tl : List Value} (h : Srow w g d tl) (ho : Only sb w w') (hne : g ≠ sb) : Srow w' g d tl := (ho.block g hne).trans h
set_option maxRecDepth 20000 in
set_option maxHeartbeats 4000000 in
theorem order2_any (w : World) (g cap sb a b : Nat) (z : Int) (d : List Nat) (tl : List Value) (h : Srow w g d tl) (hc : Cnt w sb z) (ha : a < d.length) (hb : b < d.length) (hlen : d.length ≤ 1152921504606846976) :
    Calls Try.prog 102 #[.slice (some ⟨g, 0, none⟩) d.length cap, .int .i64 (a : Int), .int .i64 (b : Int), .pointer (some ⟨sb, 0, none⟩)] w fun e w' => ∃ (x y : Nat) (z' : Int), e = .returned (.tuple #[.int .i64 (x : Int), .int .i64 (y : Int)]) ∧ ((x = a ∧ y = b) ∨ (x = b ∧ y = a)) ∧ Cnt w' sb z' ∧ Only sb w w' := by
  have HC := hidden hc
  have hca := h.cell (j := a) ha
  have hcb := h.cell (j := b) hb
  have hcz := hc.cell
  have hzz := hc.thaw
  clear h hc
  have HL := hidden (fun u => less_any (d.getD b 0) (d.getD a 0) u)
  cases hdec : decide (d.getD b 0 < d.getD a 0) with
  | true =>
    rw [hdec] at HL
    clear hdec
    generalize hx0 : d.getD b 0 = x0 at hcb HL
    generalize hx1 : d.getD a 0 = x1 at hca HL
    clear hx0 hx1
    have HN : Hid (∀ n x, Cnt ((w.drewN n).setCell ⟨sb, 0, none⟩ (.int .i64 x)) sb x) := fun n x => ((Hid.out HC).drewN n).set x
    go_enter Try.func102, Try.ntmps102
    go_wp2
    go_quiet ((go_at_call 91; exact Calls.quiet_of_same (Hid.out HL _)))
    go_wp2
    try go_region
    all_goals go_wp2
    go_ret2
    exact ⟨b, a, _, rfl, Or.inr ⟨rfl, rfl⟩, Hid.out HN _ _, ((Only.refl sb w).drewN _).setCell _ _⟩
  | false =>
    rw [hdec] at HL
    clear hdec
    generalize hx0 : d.getD b 0 = x0 at hcb HL
    generalize hx1 : d.getD a 0 = x1 at hca HL
    clear hx0 hx1
    go_enter Try.func102, Try.ntmps102
    go_wp2
    go_quiet ((go_at_call 91; exact Calls.quiet_of_same (Hid.out HL _)))
    go_wp2
    go_ret2
    exact ⟨a, b, z, rfl, Or.inl ⟨rfl, rfl⟩, (Hid.out HC).drewN _, (Only.refl sb w).drewN _⟩
/-- What the choice keeps: the row, a number that is counted; nothing else is turned. -/
structure Ms (w u : World) (g sb : Nat) (d : List Nat) (tl : List Value) : Prop where
  row : Srow u g d tl
  cnt : ∃ z, Cnt u sb z
  only : Only sb w u
  ne : g ≠ sb
def InB (lo hi x : Nat) : Prop := lo ≤ x ∧ x < hi
theorem Ms.order2 {w u : World} {g sb : Nat} {d : List Nat} {tl : List Value} (h : Ms w u g sb d tl) {lo hi a b : Nat} (cap : Nat) (hh : hi ≤ d.length) (hlen : d.length ≤ 1152921504606846976) (ha : InB lo hi a) (hb : InB lo hi b) :
    Calls Try.prog 102 #[.slice (some ⟨g, 0, none⟩) d.length cap, .int .i64 (a : Int), .int .i64 (b : Int), .pointer (some ⟨sb, 0, none⟩)] u fun e w' => ∃ (x y : Nat), e = .returned (.tuple #[.int .i64 (x : Int), .int .i64 (y : Int)]) ∧ InB lo hi x ∧ InB lo hi y ∧ Ms w w' g sb d tl := by
  obtain ⟨z, hz⟩ := h.cnt
  have ha2 := ha.2
  have hb2 := hb.2
  refine (order2_any u g cap sb a b z d tl h.row hz (by omega) (by omega) hlen).mono ?_
  rintro e w' ⟨x, y, z', rfl, hxy, hc, ho⟩
  refine ⟨x, y, rfl, ?_, ?_, ⟨h.row.only ho h.ne, ⟨z', hc⟩, h.only.trans ho, h.ne⟩⟩
  · rcases hxy with ⟨rfl, rfl⟩ | ⟨rfl, rfl⟩
    · exact ha
    · exact hb
  · rcases hxy with ⟨rfl, rfl⟩ | ⟨rfl, rfl⟩
    · exact hb
    · exact ha
theorem Ms.drewN {w u : World} {g sb : Nat} {d : List Nat} {tl : List Value} (h : Ms w u g sb d tl) (n : Nat) : Ms w (u.drewN n) g sb d tl := ⟨h.row, h.cnt, h.only.drewN n, h.ne⟩
set_option maxRecDepth 20000 in
set_option maxHeartbeats 4000000 in
theorem Ms.median {w u : World} {g sb : Nat} {d : List Nat} {tl : List Value} (h : Ms w u g sb d tl) {lo hi a b c : Nat} (cap : Nat) (hh : hi ≤ d.length) (hlen : d.length ≤ 1152921504606846976) (ha : InB lo hi a) (hb : InB lo hi b) (hc : InB lo hi c) :
    Calls Try.prog 100 #[.slice (some ⟨g, 0, none⟩) d.length cap, .int .i64 (a : Int), .int .i64 (b : Int), .int .i64 (c : Int), .pointer (some ⟨sb, 0, none⟩)] u fun e w' => ∃ (x : Nat), e = .returned (.int .i64 (x : Int)) ∧ InB lo hi x ∧ Ms w w' g sb d tl := by
  have HA := hidden ha
  have HB := hidden hb
  have HC := hidden hc
  have H := hidden h
  clear h ha hb hc
  go_enter Try.func100, Try.ntmps100
  go_wp2_with (first
    | (go_at_call 102; refine (Ms.order2 (Hid.out H3) cap hh hlen (Hid.out HX1) (Hid.out HX2)).mono ?_; rintro e w3 ⟨x3, y3, rfl, hx3, hy3, hM⟩; have HX3 := hidden hx3; have HY3 := hidden hy3; have H4 := hidden hM; clear hx3 hy3 hM H3)
    | (go_at_call 102; refine (Ms.order2 (Hid.out H2) cap hh hlen (Hid.out HY1) (Hid.out HC)).mono ?_; rintro e w2 ⟨x2, y2, rfl, hx2, hy2, hM⟩; have HX2 := hidden hx2; have HY2 := hidden hy2; have H3 := hidden hM; clear hx2 hy2 hM H2)
    | (go_at_call 102; refine (Ms.order2 (Hid.out H) cap hh hlen (Hid.out HA) (Hid.out HB)).mono ?_; rintro e w1 ⟨x1, y1, rfl, hx1, hy1, hM⟩; have HX1 := hidden hx1; have HY1 := hidden hy1; have H2 := hidden hM; clear hx1 hy1 hM H))
  go_ret
  exact ⟨y3, rfl, Hid.out HY3, Hid.out H4⟩
set_option maxRecDepth 20000 in
set_option maxHeartbeats 4000000 in
theorem Ms.adjacent {w u : World} {g sb : Nat} {d : List Nat} {tl : List Value} (h : Ms w u g sb d tl) {lo hi a : Nat} (cap : Nat) (hh : hi ≤ d.length) (hlen : d.length ≤ 1152921504606846976) (ha : lo < a) (ha2 : a + 1 < hi) :
    Calls Try.prog 99 #[.slice (some ⟨g, 0, none⟩) d.length cap, .int .i64 (a : Int), .pointer (some ⟨sb, 0, none⟩)] u fun e w' => ∃ (x : Nat), e = .returned (.int .i64 (x : Int)) ∧ InB lo hi x ∧ Ms w w' g sb d tl := by
  obtain ⟨k, rfl⟩ : ∃ k, a = k + 1 := ⟨a - 1, by omega⟩
  have HC : Hid (∀ n, Calls Try.prog 100 #[.slice (some ⟨g, 0, none⟩) d.length cap, .int .i64 (k : Int), .int .i64 ((k : Int) + 1), .int .i64 ((k : Int) + 1 + 1), .pointer (some ⟨sb, 0, none⟩)] (u.drewN n) fun e w' => ∃ (x : Nat), e = .returned (.int .i64 (x : Int)) ∧ InB lo hi x ∧ Ms w w' g sb d tl) := fun n =>
    Ms.median (a := k) (b := k + 1) (c := k + 1 + 1) (h.drewN n) cap hh hlen ⟨by omega, by omega⟩ ⟨by omega, by omega⟩ ⟨by omega, by omega⟩
  have HC0 : Hid (Calls Try.prog 100 #[.slice (some ⟨g, 0, none⟩) d.length cap, .int .i64 (k : Int), .int .i64 ((k : Int) + 1), .int .i64 ((k : Int) + 1 + 1), .pointer (some ⟨sb, 0, none⟩)] u fun e w' => ∃ (x : Nat), e = .returned (.int .i64 (x : Int)) ∧ InB lo hi x ∧ Ms w w' g sb d tl) :=
    Ms.median (a := k) (b := k + 1) (c := k + 1 + 1) h cap hh hlen ⟨by omega, by omega⟩ ⟨by omega, by omega⟩ ⟨by omega, by omega⟩
  clear h
  go_enter Try.func99, Try.ntmps99
  go_wp2_with (first
    | (go_at_call 100; refine (Hid.out HC0).mono ?_; rintro e w3 ⟨x3, rfl, hx3, hM⟩; have HX3 := hidden hx3; have H4 := hidden hM; clear hx3 hM)
    | (go_at_call 100; refine (Hid.out HC _).mono ?_; rintro e w3 ⟨x3, rfl, hx3, hM⟩; have HX3 := hidden hx3; have H4 := hidden hM; clear hx3 hM))
  go_ret
  exact ⟨x3, rfl, Hid.out HX3, Hid.out H4⟩
end Go.Proofs.Ytodoenimlhldjaa
