/- Parts that came in, and the memory that is made of them. -/
import Derived.Test.YtpknppicamefgaaPMC
namespace Go.Proofs.Ytpknppicamefgaa
open Go.ChangeShapes Go.WideShapes Go.ChangeAt Go.RowKit
set_option linter.unusedVariables false
structure PartAt (w : World) (b o : Nat) (p : Part4) : Prop where
  c0 : w.cell? ⟨b, o, none⟩ = some (.int .u32 (p.at_ : Int))
  c1 : w.cell? ⟨b, o + 1, none⟩ = some (.slice p.da p.data.length p.dcap)
  c2 : w.cell? ⟨b, o + 2, none⟩ = some (.int .i64 p.perm)
  c3 : w.cell? ⟨b, o + 3, none⟩ = some (.bool p.on)
  row : Row w p.da p.data p.dcap
  lt : p.at_ < 4294967296
def Pieces (w : World) (ao : Option Addr) (ps : List Part4) : Prop := ps = [] ∨ ∃ b off, ao = some ⟨b, off, none⟩ ∧ b < w.heap.size ∧ ∀ j (h : j < ps.length), PartAt w b (off + j * 4) ps[j]
theorem PartAt.later {w w' : World} {b o : Nat} {p : Part4} (h : PartAt w b o p) (hlt : b < w.heap.size) (hb : Below w.heap.size w w') : PartAt w' b o p :=
  ⟨(hb.cell (p := ⟨b, o, none⟩) hlt).trans h.c0, (hb.cell (p := ⟨b, o + 1, none⟩) hlt).trans h.c1, (hb.cell (p := ⟨b, o + 2, none⟩) hlt).trans h.c2, (hb.cell (p := ⟨b, o + 3, none⟩) hlt).trans h.c3, h.row.later hb, h.lt⟩
theorem Pieces.later {w w' : World} {ao : Option Addr} {ps : List Part4} (h : Pieces w ao ps) (hb : Below w.heap.size w w') : Pieces w' ao ps := by
  rcases h with h | ⟨b, off, e, hlt, h⟩
  · exact .inl h
  · exact .inr ⟨b, off, e, Nat.lt_of_lt_of_le hlt hb.size, fun j hj => (h j hj).later hlt hb⟩
theorem Pieces.at {w : World} {ao : Option Addr} {ps : List Part4} (h : Pieces w ao ps) {k : Nat} (hk : k < ps.length) : ∃ b off, ao = some ⟨b, off, none⟩ ∧ b < w.heap.size ∧ PartAt w b (off + k * 4) ps[k] := by
  rcases h with h | ⟨b, off, e, hlt, h⟩
  · rw [h] at hk; simp at hk
  · exact ⟨b, off, e, hlt, h k hk⟩
def few (ps : List Part4) : Bool := (ps.take 8).all (fun p => decide (p.data.length ≤ 600)) && decide (ps.length ≤ 8)
end Go.Proofs.Ytpknppicamefgaa
