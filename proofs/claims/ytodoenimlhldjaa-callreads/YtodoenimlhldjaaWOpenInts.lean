/- Whole numbers that came in. -/
import Derived.Test.YtodoenimlhldjaaWMAU
import Derived.OpenShut
namespace Go.Proofs.Ytodoenimlhldjaa
open Go.ChangeShapes Go.WideShapes Go.ChangeAt Go.RowKit Go.Deep
set_option linter.unusedVariables false
theorem open_rw {H : Type} {enc : TypeId × Value → H} {w : World} {fuel : Nat} {held : Bool} {ao : Option Addr} {len cap : Nat} {x : DataW H × List MemPlace} {spare : Nat → Bool} (h : DataW.trod enc Try.prog w 0 spare held fuel 27 [.slice ao len cap] = some x) :
    ∃ zs : List Int, zs.length = len ∧ Rw w 1 (.slice ao zs.length cap) zs.length (cI zs) ∧ zs.length ≤ 9223372036854775807 := by
  rcases open_ints Try.underlying27 Try.underlying3 (by kernel_rfl) h with ⟨hcs, _⟩ | ⟨a, l0, c0, zs, hcs, _, hl, hm, hz, _, hcell, hwz⟩
  · simp only [List.cons.injEq, and_true, Value.slice.injEq] at hcs
    obtain ⟨rfl, rfl, rfl⟩ := hcs
    exact ⟨[], rfl, rw_nil w 1, by simp⟩
  · simp only [List.cons.injEq, and_true, Value.slice.injEq] at hcs
    obtain ⟨rfl, rfl, rfl⟩ := hcs
    have hzl : len ≤ zs.length := by rw [hz]; split <;> omega
    have hlen : (zs.take len).length = len := by simp; omega
    have hm2 := hm
    simp only [maxLen] at hm2
    refine ⟨zs.take len, hlen, ⟨by rw [hlen, cI_len, hlen], some a, cap, by rw [hlen], ?_⟩, by rw [hlen]; omega⟩
    rw [hlen]
    by_cases h0 : len = 0
    · exact .inl h0
    · right
      obtain ⟨b, off, spot⟩ := a
      have hc0 := hcell 0 (by omega)
      have hspot : spot = none := by simpa [Addr.add] using World.cell?_spot hc0
      subst hspot
      refine ⟨b, off, rfl, World.block_lt_of_cell? _ _ hc0, fun j u hu => ?_⟩
      have hj : j < len := by
        have := (List.getElem?_eq_some_iff.1 hu).1
        rw [cI_len, hlen] at this
        omega
      have h1 := hcell j (by omega)
      rw [Addr.add_lit] at h1
      rw [h1]
      unfold cI at hu
      rw [List.getElem?_map, List.getElem?_take_of_lt hj, List.getElem?_eq_getElem (by omega)] at hu
      rw [List.getD_eq_getElem?_getD, List.getElem?_eq_getElem (by omega)]
      exact hu
end Go.Proofs.Ytodoenimlhldjaa
