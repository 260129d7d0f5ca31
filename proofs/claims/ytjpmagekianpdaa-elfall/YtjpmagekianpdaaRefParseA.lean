/- Chapter 6's own Parse: what its rows' region holds. -/
import Derived.Test.YtjpmagekianpdaaRefHead
import Derived.Test.YtjpmagekianpdaaRefCheck
import Derived.Test.YtjpmagekianpdaaManyW
import Derived.Test.YtjpmagekianpdaaParse
namespace Go.Proofs.Ytjpmagekianpdaa
open Go.ChangeShapes Go.WideShapes Go.ChangeAt Go.RowKit
set_option linter.unusedVariables false
theorem and7N (n : Int) : bits .and .i64 n 7 = n % 8 := by
  have h7 : (BitVec.ofInt 64 7).toNat = 2 ^ 3 - 1 := by decide
  have key : (BitVec.ofInt 64 n &&& BitVec.ofInt 64 7).toNat = (n % ((2 ^ 64 : Nat) : Int)).toNat % 2 ^ 3 := by
    rw [BitVec.toNat_and, BitVec.toNat_ofInt, h7, Nat.and_two_pow_sub_one_eq_mod]
  show IntKind.i64.wrap ((BitVec.ofInt 64 n &&& BitVec.ofInt 64 7).toNat : Nat) = n % 8
  rw [key, IntKind.wrap_i64]
  omega
section
variable {ρ : Operand → Value} {o : Oper}
theorem exec_addN {x y : Operand} {a b : Nat} (hop : o.op = .binOp .add 3 x y 3) (hx : ρ x = .int .i64 (a : Int)) (hy : ρ y = .int .i64 (b : Int)) (hn : a + b ≤ 20000) (w : World) : (execOp ρ o).run Try.prog w = .ok (.value (.int .i64 ((a + b : Nat) : Int))) w := by
  have e : IntKind.i64.wrap ((a : Int) + (b : Int)) = (a : Int) + (b : Int) := by rw [IntKind.wrap_i64]; omega
  unfold execOp
  rw [hop]
  simp [hx, hy, go_sem, e]
theorem exec_add24 {x : Operand} {a : Nat} (hop : o.op = .binOp .add 3 x (.const (.int .i64 24)) 3) (hx : ρ x = .int .i64 (a : Int) ∧ ρ (.const (.int .i64 24)) = .int .i64 24) (hn : a ≤ 20000) (w : World) : (execOp ρ o).run Try.prog w = .ok (.value (.int .i64 ((a + 24 : Nat) : Int))) w := by
  have e : IntKind.i64.wrap ((a : Int) + 24) = (a : Int) + 24 := by rw [IntKind.wrap_i64]; omega
  unfold execOp
  rw [hop]
  simp [hx.1, hx.2, go_sem, e]
theorem exec_and7N {x : Operand} {a : Nat} (hop : o.op = .binOp .and 3 x (.const (.int .i64 7)) 3) (hx : ρ x = .int .i64 (a : Int) ∧ ρ (.const (.int .i64 7)) = .int .i64 7) (w : World) : (execOp ρ o).run Try.prog w = .ok (.value (.int .i64 ((a % 8 : Nat) : Int))) w := by
  have e : bits .and .i64 (a : Int) 7 = ((a % 8 : Nat) : Int) := by rw [and7N]; omega
  unfold execOp
  rw [hop]
  simp only [hx.1, hx.2]
  simp [go_sem, e]
theorem exec_cutN {x y z : Operand} {ao : Option Addr} {Ln cap a b : Nat} (hop : o.op = .slice 22 x (some y) (some z) none) (hx : ρ x = .slice ao Ln cap) (hy : ρ y = .int .i64 (a : Int)) (hz : ρ z = .int .i64 ((a + b : Nat) : Int)) (hn : a + b ≤ cap) (w : World) : (execOp ρ o).run Try.prog w = .ok (.value (sliced ao a (a + b) cap 1)) w := by
  obtain ⟨i0, hi, hz0, hz1, hz2⟩ := info_parts info5
  unfold execOp
  rw [hop]
  simp only [Option.map_some, Option.map_none, hx, hy, hz, Sem.run_bind]
  simp [sizeOf, typeInfo, hi, hz1, go_sem]
  have e2 : ((a : Int) + (b : Int)).toNat = a + b := by omega
  rw [if_pos ⟨by omega, by omega⟩, e2, if_pos (by omega), Nat.add_sub_cancel_left]
end
theorem sliced_row {w : World} {ao : Option Addr} {l : List UInt8} {cap : Nat} (h : Row w ao l cap) (k n : Nat) (hkn : k + n ≤ l.length) : ∃ aq cq, sliced ao k (k + n) cap 1 = .slice aq ((l.drop k).take n).length cq ∧ Lies w aq ((l.drop k).take n) := by
  have hlen : ((l.drop k).take n).length = n := by simp; omega
  refine ⟨_, _, by unfold sliced; rw [hlen, Nat.add_sub_cancel_left], ?_⟩
  by_cases h0 : n = 0
  · subst h0; exact .inl (by simp)
  · have hc := h.len
    obtain ⟨b, off, e, hlt, hcs⟩ := rowCells h (by omega)
    cases e
    rw [if_neg (by omega)]
    have := (rowPiece h k n hkn n (Nat.le_refl _) (by have := h.max; omega)).lies
    simpa [Addr.add_lit, Nat.mul_one] using this
theorem rmP_of (base : Nat) (v : Value) : ∀ j u x, (if j = 20 then RM base v u x else Below u.heap.size u x) → RM base v u x := by
  intro j u x h
  by_cases hj : j = 20
  · rw [if_pos hj] at h; exact h
  · rw [if_neg hj] at h; exact rm_below base v h
theorem belowP_if {j base : Nat} {v : Value} {u x : World} (hj : j ≠ 20) (h : Below u.heap.size u x) : if j = 20 then RM base v u x else Below u.heap.size u x := by rw [if_neg hj]; exact h
def Inv12 (w : World) (l : List UInt8) (ent n p0 : Nat) (x6 : Value) (wr : World) : Prop := ∃ (k : Nat) (acc : List Sg) (v : Value), k ≤ n ∧ x6 = .int .i64 (k : Int) ∧ OutS wr w.heap.size v acc ∧ acc.length ≤ k ∧ (∀ j, j < acc.length → Fit (acc.getD j nosg)) ∧ segsE l n p0 [] = segsE l (n - k) (p0 + 32 * k) acc ∧ Blk wr w.heap.size #[.int .u32 0, .slice none 0 0] 26 ∧ Blk wr (w.heap.size + 1) #[.int .u32 (ent : Int), v] 26 ∧ Below w.heap.size w wr
theorem inv12 {w : World} {l : List UInt8} {ent n p0 : Nat} {wr : World} {z : Int} (k : Nat) (acc : List Sg) (v : Value) (hz : z = (k : Int)) (h1 : k ≤ n) (h2 : OutS wr w.heap.size v acc) (h3 : acc.length ≤ k) (h4 : ∀ j, j < acc.length → Fit (acc.getD j nosg)) (h5 : segsE l n p0 [] = segsE l (n - k) (p0 + 32 * k) acc) (h6 : Blk wr w.heap.size #[.int .u32 0, .slice none 0 0] 26) (h7 : Blk wr (w.heap.size + 1) #[.int .u32 (ent : Int), v] 26) (h8 : Below w.heap.size w wr) : Inv12 w l ent n p0 (.int .i64 z) wr :=
  ⟨k, acc, v, h1, by rw [hz], h2, h3, h4, h5, h6, h7, h8⟩
theorem outs_ne26 {w : World} {base nf : Nat} {v : Value} {l : List Sg} {cs : Array Value} (h : OutS w base v l) (hb : Blk w nf cs 26) : some nf ≠ v.ownBlock := by
  intro e
  rcases h.2 with ⟨rfl, h0⟩ | ⟨g, cap, cur, rfl, _, h3, _⟩
  · simp [Value.ownBlock] at e
  · simp only [Value.ownBlock, Option.some.injEq] at e
    subst e
    have := hb.symm.trans h3
    simp at this
theorem ref_bad {l : List UInt8} (h : refHead l ≠ 0) : parseE l = (0, [], refHead l) := by
  by_cases h1 : headE l = 0
  · by_cases h2 : tableE l = false
    · simp [parseE, refHead, h1, h2]
    · exact absurd (by simp [refHead, h1, h2]) h
  · simp [parseE, refHead, h1]
theorem ref_good {l : List UInt8} (h : refHead l = 0) : headE l = 0 ∧ tableE l = true := by
  unfold refHead at h
  by_cases h1 : headE l = 0
  · rw [if_neg (by rw [h1]; simp)] at h
    by_cases h2 : tableE l = false
    · rw [if_pos h2] at h; simp at h
    · exact ⟨h1, by simpa using h2⟩
  · rw [if_pos h1] at h; exact absurd h h1
/-- What the slots of the region hold, whatever the order. -/
def phiRp (nf L cap cq at_ fr nn sz P pm base : Nat) (ao aq : Option Addr) (d : List UInt8) (acc : List Sg) (v : Value) : Nat → Value → World → Prop
  | 0, x, _ => x = .pointer (some ⟨nf, 1, none⟩)
  | 1, x, _ => x = v
  | 2, x, _ => x = .int .i64 (at_ : Int)
  | 3, x, _ => x = .int .u32 (at_ : Int)
  | 4, x, _ => x = .slice ao L cap
  | 5, x, _ => x = .int .i64 (fr : Int)
  | 6, x, _ => x = .int .i64 (fr : Int)
  | 7, x, _ => x = .int .i64 (nn : Int)
  | 8, x, _ => x = .int .i64 ((fr + nn : Nat) : Int)
  | 9, x, _ => x = .slice aq d.length cq
  | 10, x, _ => x = .string ⟨d.toArray⟩
  | 11, x, _ => x = .int .i64 (sz : Int)
  | 12, x, _ => x = .int .u32 (sz : Int)
  | 13, x, _ => x = .slice ao L cap
  | 14, x, _ => x = .int .i64 (P : Int)
  | 15, x, _ => x = .int .i64 ((P + 24 : Nat) : Int)
  | 16, x, _ => x = .int .i64 (pm : Int)
  | 17, x, _ => x = .int .i64 ((pm % 8 : Nat) : Int)
  | 18, x, _ => x = .agg #[.int .u32 (at_ : Int), .string ⟨d.toArray⟩, .int .u32 (sz : Int), .int .i64 ((pm % 8 : Nat) : Int)]
  | 19, x, w => ∃ q, x = .slice (some ⟨q, 0, none⟩) 1 1 ∧ some q ≠ v.ownBlock ∧ Blk w q #[.int .u32 (at_ : Int), .string ⟨d.toArray⟩, .int .u32 (sz : Int), .int .i64 ((pm % 8 : Nat) : Int)] 43
  | 20, x, w => OutS w base x (acc ++ [⟨at_, d, sz, ((pm % 8 : Nat) : Int)⟩])
  | 21, x, _ => x = .pointer (some ⟨nf, 1, none⟩)
  | _ + 22, _, _ => True
theorem phiRp_mono (nf L cap cq at_ fr nn sz P pm base : Nat) (ao aq : Option Addr) (d : List UInt8) (acc : List Sg) (v : Value) : ∀ i' j x w w', phiRp nf L cap cq at_ fr nn sz P pm base ao aq d acc v i' x w → (if j = 20 then RM base v w w' else Below w.heap.size w w') → i' ≠ j → phiRp nf L cap cq at_ fr nn sz P pm base ao aq d acc v i' x w'
  | 0, _, _, _, _, h, _, _ => h
  | 1, _, _, _, _, h, _, _ => h
  | 2, _, _, _, _, h, _, _ => h
  | 3, _, _, _, _, h, _, _ => h
  | 4, _, _, _, _, h, _, _ => h
  | 5, _, _, _, _, h, _, _ => h
  | 6, _, _, _, _, h, _, _ => h
  | 7, _, _, _, _, h, _, _ => h
  | 8, _, _, _, _, h, _, _ => h
  | 9, _, _, _, _, h, _, _ => h
  | 10, _, _, _, _, h, _, _ => h
  | 11, _, _, _, _, h, _, _ => h
  | 12, _, _, _, _, h, _, _ => h
  | 13, _, _, _, _, h, _, _ => h
  | 14, _, _, _, _, h, _, _ => h
  | 15, _, _, _, _, h, _, _ => h
  | 16, _, _, _, _, h, _, _ => h
  | 17, _, _, _, _, h, _, _ => h
  | 18, _, _, _, _, h, _, _ => h
  | 19, j, x, w, w', h, hr, _ => by
    obtain ⟨q, e, h1, h2⟩ := h
    refine ⟨q, e, h1, ?_⟩
    by_cases hj : j = 20
    · rw [if_pos hj] at hr
      exact hr.blk h2 h1
    · rw [if_neg hj] at hr
      exact h2.later hr
  | 20, j, x, w, w', h, hr, hn => by
    rw [if_neg (fun e => hn e.symm)] at hr
    exact OutS.later h hr
  | 21, _, _, _, _, h, _, _ => h
  | _ + 22, _, _, _, _, _, _, _ => trivial
theorem listP22 : ∀ xs : List Value, xs.length = 22 → ∃ x0 x1 x2 x3 x4 x5 x6 x7 x8 x9 x10 x11 x12 x13 x14 x15 x16 x17 x18 x19 x20 x21, xs = [x0, x1, x2, x3, x4, x5, x6, x7, x8, x9, x10, x11, x12, x13, x14, x15, x16, x17, x18, x19, x20, x21]
  | [x0, x1, x2, x3, x4, x5, x6, x7, x8, x9, x10, x11, x12, x13, x14, x15, x16, x17, x18, x19, x20, x21], _ => ⟨_, _, _, _, _, _, _, _, _, _, _, _, _, _, _, _, _, _, _, _, _, _, rfl⟩
end Go.Proofs.Ytjpmagekianpdaa
