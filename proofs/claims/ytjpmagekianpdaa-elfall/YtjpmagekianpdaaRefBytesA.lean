/- Chapter 6's own Bytes: a file as bytes. -/
import Derived.Test.YtjpmagekianpdaaRefPut
import Derived.Test.YtjpmagekianpdaaDone
import Derived.Test.YtjpmagekianpdaaSame
import Derived.Test.YtjpmagekianpdaaMakes
namespace Go.Proofs.Ytjpmagekianpdaa
open Go.ChangeShapes Go.WideShapes Go.ChangeAt Go.RowKit
set_option linter.unusedVariables false
theorem r16z (w : World) (base : Nat) (v : Value) (l : List UInt8) (z : Int) (x : Nat) (hz : z = (x : Int)) (h : Out w base v l) (hb : base ≤ w.heap.size) (hl : l.length ≤ 900000) (hx : x < 65536) : Calls Try.prog 44 #[v, .int .i64 z] w fun e w' => ∃ v', e = .returned v' ∧ Out w' base v' (l ++ put16 x) ∧ Grew base w w' := by
  subst hz
  exact rput16_any w base v l x h hb hl hx
theorem r32z (w : World) (base : Nat) (v : Value) (l : List UInt8) (z : Int) (x : Nat) (hz : z = (x : Int)) (h : Out w base v l) (hb : base ≤ w.heap.size) (hl : l.length ≤ 900000) (hx : x < 4294967296) : Calls Try.prog 43 #[v, .int .i64 z] w fun e w' => ∃ v', e = .returned v' ∧ Out w' base v' (l ++ put32 x) ∧ Grew base w w' := by
  subst hz
  exact rput32_any w base v l x h hb hl hx
theorem Out.cast {w : World} {base : Nat} {v : Value} {l k : List UInt8} (h : Out w base v l) (e : l = k) : Out w base v k := e ▸ h
/-- Bytes, and so many of some parts behind them. -/
def lsP (pre : List UInt8) (ps : List (List UInt8)) (t : Nat) : List UInt8 := pre ++ (ps.take t).flatten
theorem lsP_zero (pre : List UInt8) (ps : List (List UInt8)) : pre = lsP pre ps 0 := by simp [lsP]
theorem lsP_step (pre : List UInt8) (ps : List (List UInt8)) (t : Nat) (q : List UInt8) (h : ps[t]? = some q) : lsP pre ps t ++ q = lsP pre ps (t + 1) := by
  unfold lsP
  rw [List.take_add_one, h, List.flatten_append, ← List.append_assoc]
  simp
theorem lsP_len {pre : List UInt8} {ps : List (List UInt8)} {t : Nat} (h : pre.length ≤ 800000) (hp : ((ps.take t).map List.length).sum ≤ 100000) : (lsP pre ps t).length ≤ 900000 := by
  unfold lsP
  rw [List.length_append, List.length_flatten]
  omega
def RG (base : Nat) (u x : World) : Prop := base ≤ u.heap.size → Grew base u x
theorem later_rg (base : Nat) : Later (RG base) := ⟨fun w _ => Grew.refl _ w, fun u v w h k hb => (h hb).trans (k (Nat.le_trans hb (h hb).size)), fun w hb => Grew.of ((Below.refl _ w).drew) hb⟩
theorem rg_of (base : Nat) : ∀ u v : World, Below u.heap.size u v → RG base u v := fun u v h hb => Grew.of h hb
theorem psi_mono (base : Nat) (pre : List UInt8) (ps : List (List UInt8)) : ∀ t x (u v : World), (base ≤ u.heap.size ∧ Out u base x (lsP pre ps t)) → Below u.heap.size u v → base ≤ v.heap.size ∧ Out v base x (lsP pre ps t) := fun t x u v h hb => ⟨Nat.le_trans h.1 hb.size, h.2.later hb⟩
section
variable {ρ : Operand → Value} {o : Oper}
theorem exec_len24 {x : Operand} {ao : Option Addr} {n c : Nat} (hop : o.op = .call { callee := .builtin .len, args := #[x], argTypes := #[24] }) (hx : ρ x = .slice ao n c) (w : World) : (execOp ρ o).run Try.prog w = .ok (.value (.int .i64 (n : Int))) w := by
  unfold execOp
  rw [hop]
  simp [hx, go_sem]
theorem exec_lenS {x : Operand} {d : List UInt8} (hop : o.op = .call { callee := .builtin .len, args := #[x], argTypes := #[9] }) (hx : ρ x = .string ⟨d.toArray⟩) (w : World) : (execOp ρ o).run Try.prog w = .ok (.value (.int .i64 (d.length : Int))) w := by
  unfold execOp
  rw [hop]
  simp [hx, go_sem]
end
theorem load9 {w : World} {a : Addr} {v : Value} (hc : w.cell? a = some v) : (loadVar 9 a).run Try.prog w = .ok v w := by
  simp [loadVar, isAgg, Sem.run_bind, run_underlying Try.underlying9, hc, go_sem]
/-- What the slots of the region hold, whatever the order. -/
def phiRa (base nl cap : Nat) (ao : Option Addr) (v0 : Value) : Nat → Value → World → Prop
  | 0, x, _ => x = v0
  | 1, x, _ => True
  | 2, x, _ => True
  | 3, x, _ => x = .pointer (some ⟨base, 1, none⟩)
  | 4, x, _ => x = .slice ao nl cap
  | 5, x, _ => x = .int .i64 (nl : Int)
  | 6, x, _ => True
  | _ + 7, _, _ => True
theorem phiRa_mono (base nl cap : Nat) (ao : Option Addr) (v0 : Value) (R : World → World → Prop) : ∀ i x u v, phiRa base nl cap ao v0 i x u → R u v → phiRa base nl cap ao v0 i x v
  | 0, _, _, _, h, _ => h
  | 1, _, _, _, h, _ => h
  | 2, _, _, _, h, _ => h
  | 3, _, _, _, h, _ => h
  | 4, _, _, _, h, _ => h
  | 5, _, _, _, h, _ => h
  | 6, _, _, _, h, _ => h
  | _ + 7, _, _, _, _, _ => trivial
/-- What the slots of the region hold, whatever the order. -/
def phiRb (sb E at_ : Nat) (v0 : Value) : Nat → Value → World → Prop
  | 0, x, _ => x = v0
  | 1, x, _ => True
  | 2, x, _ => x = .int .i64 (E : Int)
  | 3, x, _ => True
  | 4, x, _ => x = .pointer (some ⟨sb, 0, none⟩)
  | 5, x, _ => x = .int .u32 (at_ : Int)
  | 6, x, _ => x = .int .i64 (at_ : Int)
  | 7, x, _ => True
  | 8, x, _ => x = .pointer (some ⟨sb, 0, none⟩)
  | 9, x, _ => x = .int .u32 (at_ : Int)
  | 10, x, _ => x = .int .i64 (at_ : Int)
  | 11, x, _ => True
  | _ + 12, _, _ => True
theorem phiRb_mono (sb E at_ : Nat) (v0 : Value) (R : World → World → Prop) : ∀ i x u v, phiRb sb E at_ v0 i x u → R u v → phiRb sb E at_ v0 i x v
  | 0, _, _, _, h, _ => h
  | 1, _, _, _, h, _ => h
  | 2, _, _, _, h, _ => h
  | 3, _, _, _, h, _ => h
  | 4, _, _, _, h, _ => h
  | 5, _, _, _, h, _ => h
  | 6, _, _, _, h, _ => h
  | 7, _, _, _, h, _ => h
  | 8, _, _, _, h, _ => h
  | 9, _, _, _, h, _ => h
  | 10, _, _, _, h, _ => h
  | 11, _, _, _, h, _ => h
  | _ + 12, _, _, _, _, _ => trivial
/-- What the slots of the region hold, whatever the order. -/
def phiRc (sb size p : Nat) (data : List UInt8) (v0 : Value) : Nat → Value → World → Prop
  | 0, x, _ => x = v0
  | 1, x, _ => x = .pointer (some ⟨sb, 1, none⟩)
  | 2, x, _ => x = .string ⟨data.toArray⟩
  | 3, x, _ => x = .int .i64 (data.length : Int)
  | 4, x, _ => True
  | 5, x, _ => x = .pointer (some ⟨sb, 2, none⟩)
  | 6, x, _ => x = .int .u32 (size : Int)
  | 7, x, _ => x = .int .i64 (size : Int)
  | 8, x, _ => True
  | 9, x, _ => x = .pointer (some ⟨sb, 3, none⟩)
  | 10, x, _ => x = .int .i64 (p : Int)
  | 11, x, _ => True
  | 12, x, _ => True
  | _ + 13, _, _ => True
theorem phiRc_mono (sb size p : Nat) (data : List UInt8) (v0 : Value) (R : World → World → Prop) : ∀ i x u v, phiRc sb size p data v0 i x u → R u v → phiRc sb size p data v0 i x v
  | 0, _, _, _, h, _ => h
  | 1, _, _, _, h, _ => h
  | 2, _, _, _, h, _ => h
  | 3, _, _, _, h, _ => h
  | 4, _, _, _, h, _ => h
  | 5, _, _, _, h, _ => h
  | 6, _, _, _, h, _ => h
  | 7, _, _, _, h, _ => h
  | 8, _, _, _, h, _ => h
  | 9, _, _, _, h, _ => h
  | 10, _, _, _, h, _ => h
  | 11, _, _, _, h, _ => h
  | 12, _, _, _, h, _ => h
  | _ + 13, _, _, _, _, _ => trivial
theorem listC7 : ∀ xs : List Value, xs.length = 7 → ∃ x0 x1 x2 x3 x4 x5 x6, xs = [x0, x1, x2, x3, x4, x5, x6]
  | [x0, x1, x2, x3, x4, x5, x6], _ => ⟨_, _, _, _, _, _, _, rfl⟩
theorem listC12 : ∀ xs : List Value, xs.length = 12 → ∃ x0 x1 x2 x3 x4 x5 x6 x7 x8 x9 x10 x11, xs = [x0, x1, x2, x3, x4, x5, x6, x7, x8, x9, x10, x11]
  | [x0, x1, x2, x3, x4, x5, x6, x7, x8, x9, x10, x11], _ => ⟨_, _, _, _, _, _, _, _, _, _, _, _, rfl⟩
theorem listC13 : ∀ xs : List Value, xs.length = 13 → ∃ x0 x1 x2 x3 x4 x5 x6 x7 x8 x9 x10 x11 x12, xs = [x0, x1, x2, x3, x4, x5, x6, x7, x8, x9, x10, x11, x12]
  | [x0, x1, x2, x3, x4, x5, x6, x7, x8, x9, x10, x11, x12], _ => ⟨_, _, _, _, _, _, _, _, _, _, _, _, _, rfl⟩
structure BO (base : Nat) (w0 w : World) (v : Value) (l : List UInt8) (cs : Array Value) : Prop where
  out : Out w base v l
  grew : Grew base w0 w
  size : base ≤ w.heap.size
  file : Blk w base cs 26
theorem BO.step {base : Nat} {w0 w w' : World} {v v' : Value} {l l' : List UInt8} {cs : Array Value} (h : BO base w0 w v l cs) (ho : Out w' base v' l') (hg : Grew base w w') : BO base w0 w' v' l' cs := ⟨ho, h.grew.trans hg, Nat.le_trans h.size hg.size, hg.keep _ _ _ (by decide) h.file⟩
theorem BO.ent {base : Nat} {w0 w : World} {v a b : Value} {l : List UInt8} (h : BO base w0 w v l #[a, b]) : w.cell? ⟨base, 0, none⟩ = some a := h.file.cell rfl
theorem BO.seg {base : Nat} {w0 w : World} {v a b : Value} {l : List UInt8} (h : BO base w0 w v l #[a, b]) : w.cell? ⟨base, 1, none⟩ = some b := h.file.cell rfl
theorem BO.lt {base : Nat} {w0 w : World} {v : Value} {l : List UInt8} {cs : Array Value} (h : BO base w0 w v l cs) : base < w.heap.size := h.file.lt
theorem BO.put16 {base : Nat} {w0 w : World} {v : Value} {l : List UInt8} {cs : Array Value} (h : BO base w0 w v l cs) (z : Int) (x : Nat) (hz : z = (x : Int)) (hl : l.length ≤ 900000) (hx : x < 65536) : Calls Try.prog 44 #[v, .int .i64 z] w fun e w' => ∃ v', e = .returned v' ∧ BO base w0 w' v' (l ++ put16 x) cs :=
  (r16z w base v l z x hz h.out h.size hl hx).mono fun e w' ⟨v', he, ho, hg⟩ => ⟨v', he, h.step ho hg⟩
theorem BO.put32 {base : Nat} {w0 w : World} {v : Value} {l : List UInt8} {cs : Array Value} (h : BO base w0 w v l cs) (z : Int) (x : Nat) (hz : z = (x : Int)) (hl : l.length ≤ 900000) (hx : x < 4294967296) : Calls Try.prog 43 #[v, .int .i64 z] w fun e w' => ∃ v', e = .returned v' ∧ BO base w0 w' v' (l ++ put32 x) cs :=
  (r32z w base v l z x hz h.out h.size hl hx).mono fun e w' ⟨v', he, ho, hg⟩ => ⟨v', he, h.step ho hg⟩
end Go.Proofs.Ytjpmagekianpdaa
