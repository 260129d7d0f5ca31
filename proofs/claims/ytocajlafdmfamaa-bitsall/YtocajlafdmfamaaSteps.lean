/- Single steps through a region that draws its order, each named by its operation. -/
import Derived.Test.YtocajlafdmfamaaSplit
import Derived.Test.YtocajlafdmfamaaRows
import Derived.WalkKit
import Derived.BigQuiet
import Derived.Laws.BytesArg
namespace Go.Proofs.Ytocajlafdmfamaa
open Go
section
variable {P : Program} {md : Region.Mode} {ops : Array Oper} {Q : Exit → Act → World → Prop} {fuel : Nat} {L : Array Bool} {a : Act} {w : World} {K : Act → World → Prop}
theorem wpOp_val {i : Nat} {o : Oper} (v : Value) (hi : ops[i]? = some o) (hw : Region.wanted o (yielded ops a.tmps) = true) (hrun : (execOp a.eval o).run P w = .ok (.value v) w) (h : K (a.put o.dst v) w) : wpOp P ops Q i K a w := by
  unfold wpOp
  simp only [hi, hw, if_true]
  left
  unfold Oper.wp
  rw [hrun]
  exact h
theorem wpOp_call {i : Nat} {o : Oper} {v : Value} {W' : World → Prop} (f : FuncId) (args : Array Value) (hi : ops[i]? = some o) (hw : Region.wanted o (yielded ops a.tmps) = true) (hrun : (execOp a.eval o).run P w = .ok (.enter f args) w)
    (hc : Calls P f args w fun e w' => e = .returned v ∧ W' w') (h : ∀ w', W' w' → K (a.put o.dst v) w') : wpOp P ops Q i K a w := by
  unfold wpOp
  simp only [hi, hw, if_true]
  left
  unfold Oper.wp
  rw [hrun]
  exact hc.mono fun e w' ⟨he, hw'⟩ => by subst he; exact h w' hw'
/-- What has come up, as the bits of a number. -/
def upBits (N m : Nat) : Array Bool := ((List.range N).map fun i => m.testBit i).toArray
theorem upBits_set (N m i : Nat) : (upBits N m).setIfInBounds i true = upBits N (m ||| 2 ^ i) := by
  apply Array.ext
  · simp [upBits]
  · intro j h1 h2
    by_cases hij : i = j
    · subst hij
      simp [upBits, Nat.testBit_or, Nat.testBit_two_pow_self]
    · rw [Array.getElem_setIfInBounds_ne (by simpa [upBits] using h2) hij]
      simp [upBits, Nat.testBit_or, Nat.testBit_two_pow_of_ne hij]
theorem upTo_bits (n m : Nat) : upTo n m = upBits (n + m) (2 ^ n - 1) := by
  apply Array.ext
  · simp [upTo, upBits]
  · intro j h1 h2
    by_cases hj : j < n
    · simp [upTo, upBits, hj, Nat.testBit_two_pow_sub_one]
    · simp [upTo, upBits, List.getElem_append, hj, Nat.testBit_two_pow_sub_one]
theorem any_start {l : List Oper} (n m : Nat) (h : ∀ lB, lB = l.drop n → (∀ j, l.toArray[n + j]? = lB[j]?) → wpAny P md l.toArray Q m (upBits (n + m) (2 ^ n - 1)) a w) : wpAny P md l.toArray Q m (upTo n m) a w := by
  rw [upTo_bits]
  exact h _ rfl (by intro j; simp)
theorem any_one {N m i : Nat} (hr : Region.ready md ops (upBits N m) = [i]) (h : wpOp P ops Q i (wpAny P md ops Q fuel (upBits N (m ||| 2 ^ i))) a w) : wpAny P md ops Q (fuel + 1) (upBits N m) a w :=
  wpAny_all hr (by simp) (by intro k hk; simp at hk; subst hk; rw [upBits_set]; exact h)
theorem any_two {N m i j : Nat} (hr : Region.ready md ops (upBits N m) = [i, j]) (h1 : wpOp P ops Q i (wpAny P md ops Q fuel (upBits N (m ||| 2 ^ i))) a w) (h2 : wpOp P ops Q j (wpAny P md ops Q fuel (upBits N (m ||| 2 ^ j))) a w) : wpAny P md ops Q (fuel + 1) (upBits N m) a w :=
  wpAny_all hr (by simp) (by intro k hk; simp at hk; rcases hk with rfl | rfl <;> rw [upBits_set]; exact h1; exact h2)
theorem any_yield {N m i : Nat} {o : Oper} (v : Value) (hi : ops[i]? = some o) (hs : Region.noSelect ops = true) (hf : Region.free md ops (upBits N m) i = true) (hr : (Region.ready md ops (upBits N m)).contains i = true)
    (hQ : ∀ c a w, Q (.panic c) (a.put o.dst v) w → Q (.panic c) a w) (hw : Region.wanted o (yielded ops a.tmps) = true) (hrun : ∀ w, (execOp a.eval o).run P w = .ok (.value v) w)
    (h : wpAny P md ops Q fuel (upBits N (m ||| 2 ^ i)) (a.put o.dst v) w) : wpAny P md ops Q (fuel + 1) (upBits N m) a w :=
  wpAny_take hi hs hf hr hQ (Or.inl ⟨hw, hrun⟩) (by rw [upBits_set]; exact h)
end
theorem cutT {T G : Prop} (f : T → G) (k : T) : G := f k
theorem eql_u32 {ρ : Operand → Value} {o : Oper} {x y : Operand} {n : Int} (hop : o.op = .binOp .eql 22 x y 22) (hx : ρ x = .int .u32 n) (hy : ρ y = .int .u32 n) (w : World) : (execOp ρ o).run Try.prog w = .ok (.value (.bool true)) w := by
  unfold execOp
  rw [hop]
  simp [hx, hy, go_sem]
theorem eql_str {ρ : Operand → Value} {o : Oper} {x y : Operand} {s : ByteArray} (hop : o.op = .binOp .eql 9 x y 9) (hx : ρ x = .string s) (hy : ρ y = .string s) (w : World) : (execOp ρ o).run Try.prog w = .ok (.value (.bool true)) w := by
  unfold execOp
  rw [hop]
  simp [hx, hy, go_sem]
theorem conv_bytes {ρ : Operand → Value} {o : Oper} {x : Operand} (hop : o.op = .convert 23 9 x) (b : Nat) (xs : List Int) (hlen : xs.length = 4) (hx : ρ x = .slice (some ⟨b, 0, none⟩) 4 4) (w : World) (hc : ∀ i, i < 4 → w.cell? ⟨b, 0 + i, none⟩ = some (.int .u8 (xs.getD i 0))) :
    (execOp ρ o).run Try.prog w = .ok (.value (.string (strOfNums xs))) w := by
  unfold execOp
  rw [hop]
  have := run_convert_bytes_arg (P := Try.prog) w 23 5 Try.underlying23 Try.underlying5 b 0 4 4 xs hlen hc 9 Try.underlying9
  simp [hx, this, go_sem]
theorem cells4 (w : World) (x0 x1 x2 x3 : Int) (t : TypeId) : ∀ i, i < 4 → (w.alloc (.cells #[.int .u8 x0, .int .u8 x1, .int .u8 x2, .int .u8 x3] t)).cell? ⟨w.heap.size, 0 + i, none⟩ = some (.int .u8 ([x0, x1, x2, x3].getD i 0)) := by
  intro i hi
  match i, hi with
  | 0, _ => simp [go_sem]
  | 1, _ => simp [go_sem]
  | 2, _ => simp [go_sem]
  | 3, _ => simp [go_sem]
end Go.Proofs.Ytocajlafdmfamaa
