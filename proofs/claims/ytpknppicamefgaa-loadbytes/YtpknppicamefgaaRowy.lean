/- Bytes in memory: that they lie where a slice begins, what stays of that, and as a text. -/
import Derived.Test.YtpknppicamefgaaExec
import Derived.Laws.CopyOwn
namespace Go.Proofs.Ytpknppicamefgaa
open Go.ChangeShapes Go.WideShapes Go.ChangeAt Go.RowKit
set_option linter.unusedVariables false
/-- The bytes l lie where the address says (nothing is said of none). -/
def Lies (w : World) (ao : Option Addr) (l : List UInt8) : Prop :=
  l = [] ∨ ∃ b off, ao = some ⟨b, off, none⟩ ∧ ∀ j, j < l.length → w.cell? ⟨b, off + j, none⟩ = some (.int .u8 ((l.getD j 0).toNat : Int))
/-- A slice of the bytes l. -/
structure Row (w : World) (ao : Option Addr) (l : List UInt8) (cap : Nat) : Prop where
  len : l.length ≤ cap
  max : cap ≤ maxLen
  nil : ao = none → cap = 0
  lies : Lies w ao l
theorem Lies.later {w w' : World} {ao : Option Addr} {l : List UInt8} (h : Lies w ao l) (hb : Below w.heap.size w w') : Lies w' ao l := by
  rcases h with h | ⟨b, off, rfl, hc⟩
  · exact .inl h
  · by_cases h0 : l = []
    · exact .inl h0
    · have hlt : b < w.heap.size := World.block_lt_of_cell? _ _ (hc 0 (by cases l <;> simp_all))
      exact .inr ⟨b, off, rfl, fun j hj => (hb.cell (by exact hlt)).trans (hc j hj)⟩
theorem Row.later {w w' : World} {ao : Option Addr} {l : List UInt8} {cap : Nat} (h : Row w ao l cap) (hb : Below w.heap.size w w') : Row w' ao l cap := ⟨h.len, h.max, h.nil, h.lies.later hb⟩
theorem Row.cut {w : World} {ao : Option Addr} {l : List UInt8} {cap : Nat} (h : Row w ao l cap) : Row w ao l l.length :=
  ⟨Nat.le_refl _, Nat.le_trans h.len h.max, fun e => by have := h.nil e; have := h.len; omega, h.lies⟩
theorem Row.none (w : World) : Row w none [] 0 := ⟨Nat.le_refl _, by simp [maxLen], fun _ => rfl, .inl rfl⟩
theorem Lies.cells {w : World} {b off : Nat} {l : List UInt8} (h : ∀ j, j < l.length → w.cell? ⟨b, off + j, none⟩ = some (.int .u8 ((l.getD j 0).toNat : Int))) : ∀ j u, (cellsU l)[j]? = some u → w.cell? ((⟨b, off, none⟩ : Addr).add j) = some u := by
  intro j u hu
  have hj : j < l.length := by
    have := (List.getElem?_eq_some_iff.1 hu).1
    simpa [cellsU] using this
  rw [cellsU_get l j hj] at hu
  simp only [Option.some.injEq] at hu
  rw [← hu, Addr.add_lit]
  exact h j hj
/-- What a row of the call's own says of itself. -/
theorem lies_of_own {w : World} {base g n cap : Nat} {l : List UInt8} (hn : n = l.length) (h : w.ownsRow base 5 1 (.slice (some ⟨g, 0, none⟩) n cap) n (cellsU l)) : Row w (some ⟨g, 0, none⟩) l cap := by
  subst hn
  rcases h.2 with ⟨h', _⟩ | ⟨g', cap', cur, h', _, hg, hnc, hcm, _, htake⟩
  · simp at h'
  · simp only [Value.slice.injEq, Option.some.injEq, Addr.mk.injEq, and_true, true_and] at h'
    obtain ⟨rfl, rfl⟩ := h'
    refine ⟨hnc, hcm, by simp, .inr ⟨g, 0, rfl, fun j hj => ?_⟩⟩
    have hc := h.cellAt j (by omega)
    rw [cellsU_get l j hj] at hc
    rw [Nat.zero_add]
    exact hc
theorem row_of_own {w : World} {base n : Nat} {v : Value} {l : List UInt8} (hn : n = l.length) (h : w.ownsRow base 5 1 v n (cellsU l)) : ∃ ao cap, v = .slice ao n cap ∧ Row w ao l cap := by
  have h2 := h
  rcases h.2 with ⟨rfl, h0⟩ | ⟨g, cap, cur, rfl, _⟩
  · have : l = [] := List.eq_nil_of_length_eq_zero (by omega)
    subst this
    subst h0
    exact ⟨none, 0, rfl, Row.none w⟩
  · exact ⟨_, cap, rfl, lies_of_own hn h2⟩
theorem below_grown {w w' : World} {row : Option Nat} (B : Nat) (hB : B ≤ w.heap.size) (hg : w.grownBy w' row) (hr : ∀ k, row = some k → B ≤ k) : Below B w w' := (Below.refl B w).grown hg hB hr
theorem run_str (w : World) (ao : Option Addr) (l : List UInt8) (cap : Nat) (h : Lies w ao l) : (convert 51 9 (.slice ao l.length cap)).run Try.prog w = .ok (.string ⟨l.toArray⟩) w := by
  by_cases h0 : l = []
  · subst h0
    rw [run_convert_bytes_string w 51 9 5 ao _ cap Try.underlying51 Try.underlying5 Try.underlying9]
    cases ao with
    | none => simp [Conv.bytesToString]; rfl
    | some a => simp [Conv.bytesToString, loadCells, loadCellsFrom]; rfl
  · rcases h with h | ⟨b, off, rfl, hc⟩
    · exact absurd h h0
    · refine run_convert_bytes_back w 51 9 5 ⟨b, off, none⟩ cap l Try.underlying51 Try.underlying5 Try.underlying9 ?_
      intro j hj
      rw [Addr.add_lit, hc j hj, List.getD_eq_getElem?_getD, List.getElem?_eq_getElem hj, Option.getD_some]
end Go.Proofs.Ytpknppicamefgaa
