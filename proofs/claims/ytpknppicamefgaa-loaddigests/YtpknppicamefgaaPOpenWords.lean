/- Files and bytes that came in, opened. -/
import Derived.Test.YtpknppicamefgaaPOpenFile
import Derived.Test.YtpknppicamefgaaPEFiles
import Derived.Deep.Slices
namespace Go.Proofs.Ytpknppicamefgaa
open Go.ChangeShapes Go.WideShapes Go.ChangeAt Go.RowKit Go.Deep
set_option linter.unusedVariables false
theorem open_words {H : Type} {enc : TypeId × Value → H} {w : World} {fuel : Nat} {held : Bool} {ao : Option Addr} {len cap : Nat} {x : DataW H × List MemPlace} {spare : Nat → Bool} (h : DataW.trod enc Try.prog w 0 spare held fuel 48 [.slice ao len cap] = some x) :
    ∃ vs : List Nat, vs.length = len ∧ WdsA w ao vs ∧ (∀ x ∈ vs, x < 4294967296) ∧ len ≤ cap ∧ cap ≤ 9223372036854775807 := by
  rcases open_ints Try.underlying48 Try.underlying22 (by kernel_rfl) h with ⟨hcs, _⟩ | ⟨a, l0, c0, zs, hcs, _, hl, hm, hz, _, hcell, hwz⟩
  · simp only [List.cons.injEq, and_true, Value.slice.injEq] at hcs
    obtain ⟨rfl, rfl, rfl⟩ := hcs
    exact ⟨[], rfl, .inl rfl, by simp, by omega, by omega⟩
  · simp only [List.cons.injEq, and_true, Value.slice.injEq] at hcs
    obtain ⟨rfl, rfl, rfl⟩ := hcs
    have hzl : len ≤ zs.length := by rw [hz]; split <;> omega
    obtain ⟨f, hf⟩ : ∃ f : Nat → Nat, ∀ i, i < len → zs.getD i 0 = (f i : Int) ∧ f i < 4294967296 := by
      refine choose_lt (p := fun i (v : Nat) => zs.getD i 0 = (v : Int) ∧ v < 4294967296) fun i hi => ?_
      refine wf_u32 (hwz _ ?_)
      rw [List.getD_eq_getElem?_getD, List.getElem?_eq_getElem (by omega), Option.getD_some]
      exact List.getElem_mem _
    have hlen : ((List.range len).map f).length = len := by simp
    have hm2 := hm
    simp only [maxLen] at hm2
    refine ⟨(List.range len).map f, hlen, ?_, ?_, hl, hm2⟩
    · by_cases h0 : len = 0
      · left
        subst h0
        rfl
      · right
        obtain ⟨b, off, spot⟩ := a
        have hc0 := hcell 0 (by omega)
        have hspot : spot = none := by simpa [Addr.add] using World.cell?_spot hc0
        subst hspot
        refine ⟨b, off, rfl, ?_, fun j hj => ?_⟩
        · have := World.block_lt_of_cell? _ _ hc0
          simpa [Addr.add_lit] using this
        · rw [hlen] at hj
          have h1 := hcell j (by omega)
          rw [Addr.add_lit] at h1
          rw [h1, (hf j hj).1]
          simp [List.getD_eq_getElem?_getD, hj]
    · intro y hy
      obtain ⟨i, hi, rfl⟩ := List.mem_map.1 hy
      exact (hf i (by simpa using hi)).2
end Go.Proofs.Ytpknppicamefgaa
