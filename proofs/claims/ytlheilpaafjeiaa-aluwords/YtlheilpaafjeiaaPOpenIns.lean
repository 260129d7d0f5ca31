/- An instruction that came in, opened. -/
import Derived.Test.YtlheilpaafjeiaaPAluBase
import Derived.Deep.Slices
namespace Go.Proofs.Ytlheilpaafjeiaa
open Go.ChangeShapes Go.WideShapes Go.ChangeAt Go.RowKit Go.Deep
set_option linter.unusedVariables false
theorem wf_u32 {a : Int} (h : (Lit.int .u32 a).wf = true) : ∃ n : Nat, a = (n : Int) ∧ n < 4294967296 := by
  have : 0 ≤ a ∧ a ≤ 4294967295 := by simpa [Lit.wf, IntKind.min, IntKind.max, IntKind.signed, IntKind.bits] using h
  exact ⟨a.toNat, by omega, by omega⟩
theorem cells24 : Try.prog.cellsOf 24 = 6 := by kernel_rfl
theorem cells22 : Try.prog.cellsOf 22 = 1 := by kernel_rfl
theorem cells3 : Try.prog.cellsOf 3 = 1 := by kernel_rfl
set_option maxRecDepth 20000 in
theorem open_ins {H : Type} {enc : TypeId × Value → H} {w : World} {fuel : Nat} {held : Bool} {cs : Array Value} {x : DataW H × List MemPlace} {spare : Nat → Bool}
    (hs : cs.size = 6) (h : DataW.trod enc Try.prog w 0 spare held fuel 24 cs.toList = some x) : ∃ op S T D A m : Int, cs = insC op S T D A m ∧ 0 ≤ m ∧ m < 4294967296 := by
  obtain ⟨xs, k, hk, hxy, _, hxl, hf⟩ := DataW.trod_struct Try.underlying24 h
  match cs, hs with
  | ⟨[v0, v1, v2, v3, v4, v5]⟩, _ =>
    match xs, hxl with
    | [y0, y1, y2, y3, y4, y5], _ =>
      have g0 := hf 0 _ rfl
      have g1 := hf 1 _ rfl
      have g2 := hf 2 _ rfl
      have g3 := hf 3 _ rfl
      have g4 := hf 4 _ rfl
      have g5 := hf 5 _ rfl
      simp [cells3, cells22] at g0 g1 g2 g3 g4 g5
      obtain ⟨n0, e0, _, _⟩ := DataW.trod_int Try.underlying3 g0
      obtain ⟨n1, e1, _, _⟩ := DataW.trod_int Try.underlying3 g1
      obtain ⟨n2, e2, _, _⟩ := DataW.trod_int Try.underlying3 g2
      obtain ⟨n3, e3, _, _⟩ := DataW.trod_int Try.underlying3 g3
      obtain ⟨n4, e4, _, _⟩ := DataW.trod_int Try.underlying3 g4
      obtain ⟨n5, e5, _, w5⟩ := DataW.trod_int Try.underlying22 g5
      obtain ⟨m5, rfl, hm5⟩ := wf_u32 w5
      simp only [List.cons.injEq, and_true] at e0 e1 e2 e3 e4 e5
      subst e0 e1 e2 e3 e4 e5
      exact ⟨n0, n1, n2, n3, n4, (m5 : Int), rfl, by omega, by omega⟩
end Go.Proofs.Ytlheilpaafjeiaa
