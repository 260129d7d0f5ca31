/- Calls that came in as a slice, opened. -/
import Derived.Test.YtfbmkgdpejgjpaaPPlaysA
import Derived.Test.YtfbmkgdpejgjpaaPOpenParts
import Derived.Deep.Slices
namespace Go.Proofs.Ytfbmkgdpejgjpaa
open Go.ChangeShapes Go.WideShapes Go.ChangeAt Go.RowKit Go.Deep
set_option linter.unusedVariables false
theorem cellsN29 : Try.prog.cellsOf 29 = 4 := by kernel_rfl
theorem cellsN3 : Try.prog.cellsOf 3 = 1 := by kernel_rfl
theorem cellsN5 : Try.prog.cellsOf 5 = 1 := by kernel_rfl
theorem cellsN27 : Try.prog.cellsOf 27 = 1 := by kernel_rfl
set_option maxRecDepth 20000 in
theorem open_op4 {H : Type} {enc : TypeId × Value → H} {w : World} {base n : Nat} {spare : Nat → Bool} {held : Bool} {a : Addr} {cs : List Value} {x : DataW H × List MemPlace}
    (h1 : w.cells? base a 4 = some cs) (h2 : DataW.trod enc Try.prog w base spare held n 29 cs = some x) :
    ∃ o : Op4, w.cell? (a.add 0) = some (.int .i64 o.kd) ∧ w.cell? (a.add 1) = some (.int .i64 o.pm) ∧ w.cell? (a.add 2) = some (.int .u32 (o.at_ : Int)) ∧ w.cell? (a.add 3) = some (.int .u8 (o.v.toNat : Int)) ∧ o.at_ < 4294967296 := by
  obtain ⟨_, hlen, hcell⟩ := World.cells?_some h1
  obtain ⟨xs, k, hk, hxy, _, hxl, hf⟩ := DataW.trod_struct Try.underlying29 h2
  match xs, hxl, cs, hlen with
  | [y0, y1, y2, y3], _, [v0, v1, v2, v3], _ =>
    have g0 := hf 0 _ rfl
    have g1 := hf 1 _ rfl
    have g2 := hf 2 _ rfl
    have g3 := hf 3 _ rfl
    simp [cellsN3, cellsN5, cellsN27] at g0 g1 g2 g3
    obtain ⟨n0, e0, _, _⟩ := DataW.trod_int Try.underlying3 g0
    obtain ⟨n1, e1, _, _⟩ := DataW.trod_int Try.underlying3 g1
    obtain ⟨n2, e2, _, h2'⟩ := DataW.trod_int Try.underlying27 g2
    obtain ⟨n3, e3, _, h3⟩ := DataW.trod_int Try.underlying5 g3
    obtain ⟨b3, rfl⟩ := wf_u8 h3
    obtain ⟨a2, rfl, ha2⟩ := wf_u32 h2'
    simp only [List.cons.injEq, and_true] at e0 e1 e2 e3
    subst e0 e1 e2 e3
    have c0 := hcell 0 (by omega)
    have c1 := hcell 1 (by omega)
    have c2 := hcell 2 (by omega)
    have c3 := hcell 3 (by omega)
    exact ⟨⟨n0, n1, a2, b3⟩, by simpa using c0, by simpa using c1, by simpa using c2, by simpa using c3, ha2⟩
theorem open_ops4 {H : Type} {enc : TypeId × Value → H} {w : World} {fuel : Nat} {held : Bool} {ao : Option Addr} {len cap : Nat} {x : DataW H × List MemPlace} {spare : Nat → Bool}
    (h : DataW.trod enc Try.prog w 0 spare held fuel 22 [.slice ao len cap] = some x) : ∃ l : List Op4, l.length = len ∧ Ops4 w ao l ∧ len ≤ cap ∧ cap ≤ 9223372036854775807 := by
  rcases open_slice Try.underlying22 h with ⟨hcs, _⟩ | ⟨a, l, c, m, n, D, Pl, hcs, hb, hl, hm, hmm, _, hx⟩
  · simp at hcs
    obtain ⟨rfl, rfl, rfl⟩ := hcs
    exact ⟨[], rfl, .inl rfl, by omega, by omega⟩
  · simp at hcs
    obtain ⟨rfl, rfl, rfl⟩ := hcs
    have hlm : len ≤ m := by rw [hmm]; split <;> omega
    have each : ∀ i, i < len → ∃ o : Op4, w.cell? (a.add (i * 4)) = some (.int .i64 o.kd) ∧ w.cell? (a.add (i * 4 + 1)) = some (.int .i64 o.pm) ∧ w.cell? (a.add (i * 4 + 2)) = some (.int .u32 (o.at_ : Int)) ∧ w.cell? (a.add (i * 4 + 3)) = some (.int .u8 (o.v.toNat : Int)) ∧ o.at_ < 4294967296 := by
      intro i hi
      obtain ⟨cs', h1, h2⟩ := hx i (by omega)
      rw [cellsN29] at h1
      obtain ⟨o, c0, c1, c2, c3, c4⟩ := open_op4 h1 h2
      rw [add_add] at c0 c1 c2 c3
      exact ⟨o, c0, c1, c2, c3, c4⟩
    have hinh : Inhabited Op4 := ⟨noop4⟩
    obtain ⟨os, hos⟩ := choose_lt each
    refine ⟨(List.range len).map os, by simp, ?_, hl, hm⟩
    by_cases h0 : len = 0
    · exact .inl (by simp [h0])
    · obtain ⟨b, off, spot⟩ := a
      have hspot : spot = none := by simpa [Addr.add] using World.cell?_spot (hos 0 (by omega)).1
      subst hspot
      refine .inr ⟨b, off, rfl, ?_, ?_⟩
      · have := World.block_lt_of_cell? _ _ (hos 0 (by omega)).1
        simpa [Addr.add_lit] using this
      · intro j hj
        have hj2 : j < len := by simpa using hj
        obtain ⟨c0, c1, c2, c3, c4⟩ := hos j hj2
        rw [Addr.add_lit] at c0 c1 c2 c3
        have e : ((List.range len).map os).getD j noop4 = os j := by simp [List.getD_eq_getElem?_getD, hj2]
        rw [e]
        exact ⟨c0, by rw [Nat.add_assoc]; exact c1, by rw [Nat.add_assoc]; exact c2, by rw [Nat.add_assoc]; exact c3, c4⟩
end Go.Proofs.Ytfbmkgdpejgjpaa
