/- MemPlays: both memories through any calls. -/
import Derived.Test.YtfbmkgdpejgjpaaPSameMem
import Derived.Test.YtfbmkgdpejgjpaaPPair
import Derived.Deep.Cut
import Derived.Deep.CutRange
import Derived.Deep.CutBlock
namespace Go.Proofs.Ytfbmkgdpejgjpaa
open Go.ChangeShapes Go.WideShapes Go.ChangeAt Go.RowKit
set_option linter.unusedVariables false
/-- A call. -/
structure Op4 where
  kd : Int
  pm : Int
  at_ : Nat
  v : UInt8
def noop4 : Op4 := ⟨0, 0, 0, 0⟩
structure Op4At (w : World) (b j : Nat) (o : Op4) : Prop where
  c0 : w.cell? ⟨b, j, none⟩ = some (.int .i64 o.kd)
  c1 : w.cell? ⟨b, j + 1, none⟩ = some (.int .i64 o.pm)
  c2 : w.cell? ⟨b, j + 2, none⟩ = some (.int .u32 (o.at_ : Int))
  c3 : w.cell? ⟨b, j + 3, none⟩ = some (.int .u8 (o.v.toNat : Int))
  la : o.at_ < 4294967296
def Ops4 (w : World) (ao : Option Addr) (l : List Op4) : Prop := l = [] ∨ ∃ b off, ao = some ⟨b, off, none⟩ ∧ b < w.heap.size ∧ ∀ j, j < l.length → Op4At w b (off + j * 4) (l.getD j noop4)
theorem Ops4.at {w w' : World} {ao : Option Addr} {l : List Op4} (h : Ops4 w ao l) {k : Nat} (hk : k < l.length) (hb : Below w.heap.size w w') : ∃ b off, ao = some ⟨b, off, none⟩ ∧ b < w'.heap.size ∧ Op4At w' b (off + k * 4) (l.getD k noop4) := by
  rcases h with h | ⟨b, off, e, hlt, h⟩
  · rw [h] at hk; simp at hk
  · have g := h k hk
    exact ⟨b, off, e, Nat.lt_of_lt_of_le hlt hb.size, (hb.cell (p := ⟨b, _, none⟩) hlt).trans g.c0, (hb.cell (p := ⟨b, _, none⟩) hlt).trans g.c1, (hb.cell (p := ⟨b, _, none⟩) hlt).trans g.c2, (hb.cell (p := ⟨b, _, none⟩) hlt).trans g.c3, g.la⟩
/-- Both memories, and the call's own block. -/
structure DB (w u : World) (s : MS) (t : S5) (ob : Nat) (cs : Array Value) : Prop where
  duo : Duo w u s t
  blk : Blk u ob cs 29
  n1 : ¬ foot s ob
  n2 : ¬ foot5 t ob
theorem DB.code {w u u' : World} {s s' : MS} {t : S5} {ob : Nat} {cs : Array Value} (h : DB w u s t ob cs) (k : Step u s u' s') : DB w u' s' t ob cs := by
  have hlt := h.blk.lt
  refine ⟨h.duo.code k, (k.keep.block ob hlt h.n1).trans h.blk, fun hf => ?_, h.n2⟩
  rcases k.grow ob hf with h1 | h1
  · exact h.n1 h1
  · omega
theorem DB.model {w u u' : World} {s : MS} {t t' : S5} {ob : Nat} {cs : Array Value} (h : DB w u s t ob cs) (k : Step5 u t u' t') : DB w u' s t' ob cs := by
  have hlt := h.blk.lt
  refine ⟨h.duo.model k, (k.keep.block ob hlt h.n2).trans h.blk, h.n1, fun hf => ?_⟩
  rcases k.grow ob hf with h1 | h1
  · exact h.n2 h1
  · omega
theorem DB.later {w u u' : World} {s : MS} {t : S5} {ob : Nat} {cs : Array Value} (h : DB w u s t ob cs) (hb : Below u.heap.size u u') : DB w u' s t ob cs := h.code (Step.later h.duo.own.mem hb)
theorem DB.o2 {w u : World} {s : MS} {t : S5} {ob : Nat} {a b c d : Value} (h : DB w u s t ob #[a, b, c, d]) : u.cell? ⟨ob, 2, none⟩ = some c := h.blk.cell rfl
theorem DB.o1 {w u : World} {s : MS} {t : S5} {ob : Nat} {a b c d : Value} (h : DB w u s t ob #[a, b, c, d]) : u.cell? ⟨ob, 1, none⟩ = some b := h.blk.cell rfl
theorem DB.o3 {w u : World} {s : MS} {t : S5} {ob : Nat} {a b c d : Value} (h : DB w u s t ob #[a, b, c, d]) : u.cell? ⟨ob, 3, none⟩ = some d := h.blk.cell rfl
theorem DB.lt {w u : World} {s : MS} {t : S5} {ob : Nat} {cs : Array Value} (h : DB w u s t ob cs) : ob < u.heap.size := h.blk.lt
/-- What the rounds keep. -/
structure PI (s : MS) (t : S5) (k : Nat) : Prop where
  sim : Sim s t.l
  most : s.most = t.most
  ts : s.ts = t.ts
  c : s.c ≤ k
theorem PI.up {s : MS} {t : S5} {k : Nat} (h : PI s t k) : PI s t (k + 1) := ⟨h.sim, h.most, h.ts, Nat.le_succ_of_le h.c⟩
theorem PI.few {w u : World} {s : MS} {t : S5} {k : Nat} (h : PI s t k) (hm : MemW u s) : t.l.length ≤ 64 ∧ t.ts.length ≤ k := by
  have h1 := hm.room
  have h2 := hm.great
  have h3 := hm.few
  have h4 := h.c
  rw [← h.sim.len, ← h.ts]
  omega
theorem and1023 (n : Int) : bits .and .i64 n 1023 = n % 1024 := by
  have h7 : (BitVec.ofInt 64 1023).toNat = 2 ^ 10 - 1 := by decide
  have key : (BitVec.ofInt 64 n &&& BitVec.ofInt 64 1023).toNat = (n % ((2 ^ 64 : Nat) : Int)).toNat % 2 ^ 10 := by
    rw [BitVec.toNat_and, BitVec.toNat_ofInt, h7, Nat.and_two_pow_sub_one_eq_mod]
  show IntKind.i64.wrap ((BitVec.ofInt 64 n &&& BitVec.ofInt 64 1023).toNat : Nat) = n % 1024
  rw [key, IntKind.wrap_i64]
  omega
theorem and1 (n : Int) : bits .and .i64 n 1 = n % 2 := by
  have h7 : (BitVec.ofInt 64 1).toNat = 2 ^ 1 - 1 := by decide
  have key : (BitVec.ofInt 64 n &&& BitVec.ofInt 64 1).toNat = (n % ((2 ^ 64 : Nat) : Int)).toNat % 2 ^ 1 := by
    rw [BitVec.toNat_and, BitVec.toNat_ofInt, h7, Nat.and_two_pow_sub_one_eq_mod]
  show IntKind.i64.wrap ((BitVec.ofInt 64 n &&& BitVec.ofInt 64 1).toNat : Nat) = n % 2
  rw [key, IntKind.wrap_i64]
  omega
theorem exec_and1023 {ρ : Operand → Value} {o : Oper} {x : Operand} {n : Int} {N : Nat} (hop : o.op = .binOp .and 3 x (.const (.int .i64 1023)) 3) (hx : ρ x = .int .i64 n ∧ ρ (.const (.int .i64 1023)) = .int .i64 1023) (hN : n % 1024 = (N : Int)) (w : World) : (execOp ρ o).run Try.prog w = .ok (.value (.int .i64 (N : Int))) w := by
  have e : bits .and .i64 n 1023 = (N : Int) := by rw [and1023]; exact hN
  unfold execOp
  rw [hop]
  simp only [hx.1, hx.2]
  simp [go_sem, e]
theorem exec_neqB {ρ : Operand → Value} {o : Oper} {x y : Operand} {b : Bool} (hop : o.op = .binOp .neq 4 x y 4) (hx : ρ x = .bool b) (hy : ρ y = .bool b) (w : World) : (execOp ρ o).run Try.prog w = .ok (.value (.bool false)) w := by
  unfold execOp
  rw [hop]
  simp [hx, hy, go_sem]
theorem cut_nat (N : Nat) (h : N < 1024) : cutLen (N : Int) = N := by unfold cutLen; omega
theorem listP12 : ∀ xs : List Value, xs.length = 12 → ∃ x0 x1 x2 x3 x4 x5 x6 x7 x8 x9 x10 x11, xs = [x0, x1, x2, x3, x4, x5, x6, x7, x8, x9, x10, x11]
  | [x0, x1, x2, x3, x4, x5, x6, x7, x8, x9, x10, x11], _ => ⟨_, _, _, _, _, _, _, _, _, _, _, _, rfl⟩
def phiMp (mb mm ob : Nat) (o : Op4) : Nat → Value → Prop
  | 0, x => x = .pointer (some ⟨mb, 0, none⟩)
  | 1, x => x = .pointer (some ⟨ob, 2, none⟩)
  | 2, x => x = .int .u32 (o.at_ : Int)
  | 3, x => x = .pointer (some ⟨ob, 1, none⟩)
  | 4, x => x = .int .i64 o.pm
  | 5, x => True
  | 6, x => x = .pointer (some ⟨mm, 0, none⟩)
  | 7, x => x = .pointer (some ⟨ob, 2, none⟩)
  | 8, x => x = .int .u32 (o.at_ : Int)
  | 9, x => x = .pointer (some ⟨ob, 1, none⟩)
  | 10, x => x = .int .i64 o.pm
  | 11, x => True
  | _ + 12, _ => True
def phiPk (mb mm ob : Nat) (o : Op4) : Nat → Value → Prop
  | 0, x => x = .pointer (some ⟨mb, 0, none⟩)
  | 1, x => x = .pointer (some ⟨ob, 2, none⟩)
  | 2, x => x = .int .u32 (o.at_ : Int)
  | 3, x => x = .pointer (some ⟨ob, 3, none⟩)
  | 4, x => x = .int .u8 (o.v.toNat : Int)
  | 5, x => True
  | 6, x => x = .pointer (some ⟨mm, 0, none⟩)
  | 7, x => x = .pointer (some ⟨ob, 2, none⟩)
  | 8, x => x = .int .u32 (o.at_ : Int)
  | 9, x => x = .pointer (some ⟨ob, 3, none⟩)
  | 10, x => x = .int .u8 (o.v.toNat : Int)
  | 11, x => True
  | _ + 12, _ => True
/-- What the slots of the region hold, whatever the order. -/
def phiOb (mb mm ob : Nat) (o : Op4) (md wav : Bool) (pmv pkv wdv : Int) : Nat → Value → World → Prop
  | 0, x, _ => x = .bool true
  | 1, x, _ => x = .bool false
  | 2, x, _ => x = .bool false
  | 3, x, _ => x = .pointer (some ⟨mb, 0, none⟩)
  | 4, x, _ => x = .pointer (some ⟨ob, 2, none⟩)
  | 5, x, _ => x = .int .u32 (o.at_ : Int)
  | 6, x, _ => x = .bool md
  | 7, x, _ => x = .pointer (some ⟨mm, 0, none⟩)
  | 8, x, _ => x = .pointer (some ⟨ob, 2, none⟩)
  | 9, x, _ => x = .int .u32 (o.at_ : Int)
  | 10, x, _ => x = .bool md
  | 11, x, _ => x = .bool false
  | 12, x, _ => x = .bool false
  | 13, x, _ => x = .bool false
  | 14, x, _ => x = .pointer (some ⟨mb, 0, none⟩)
  | 15, x, _ => x = .pointer (some ⟨ob, 2, none⟩)
  | 16, x, _ => x = .int .u32 (o.at_ : Int)
  | 17, x, _ => x = .int .i64 pmv
  | 18, x, _ => x = .pointer (some ⟨mm, 0, none⟩)
  | 19, x, _ => x = .pointer (some ⟨ob, 2, none⟩)
  | 20, x, _ => x = .int .u32 (o.at_ : Int)
  | 21, x, _ => x = .int .i64 pmv
  | 22, x, _ => x = .bool false
  | 23, x, _ => x = .bool false
  | 24, x, _ => x = .bool false
  | 25, x, _ => x = .pointer (some ⟨mb, 0, none⟩)
  | 26, x, _ => x = .pointer (some ⟨ob, 2, none⟩)
  | 27, x, _ => x = .int .u32 (o.at_ : Int)
  | 28, x, _ => x = .int .u8 pkv
  | 29, x, _ => x = .pointer (some ⟨mm, 0, none⟩)
  | 30, x, _ => x = .pointer (some ⟨ob, 2, none⟩)
  | 31, x, _ => x = .int .u32 (o.at_ : Int)
  | 32, x, _ => x = .int .u8 pkv
  | 33, x, _ => x = .bool false
  | 34, x, _ => x = .bool false
  | 35, x, _ => x = .bool false
  | 36, x, _ => x = .pointer (some ⟨mb, 0, none⟩)
  | 37, x, _ => x = .pointer (some ⟨ob, 2, none⟩)
  | 38, x, _ => x = .int .u32 (o.at_ : Int)
  | 39, x, _ => x = .int .u32 wdv
  | 40, x, _ => x = .pointer (some ⟨mm, 0, none⟩)
  | 41, x, _ => x = .pointer (some ⟨ob, 2, none⟩)
  | 42, x, _ => x = .int .u32 (o.at_ : Int)
  | 43, x, _ => x = .int .u32 wdv
  | 44, x, _ => x = .bool false
  | 45, x, _ => x = .bool false
  | 46, x, _ => x = .bool false
  | 47, x, _ => x = .pointer (some ⟨mb, 0, none⟩)
  | 48, x, _ => x = .pointer (some ⟨ob, 2, none⟩)
  | 49, x, _ => x = .int .u32 (o.at_ : Int)
  | 50, x, _ => x = .bool wav
  | 51, x, _ => x = .pointer (some ⟨mm, 0, none⟩)
  | 52, x, _ => x = .pointer (some ⟨ob, 2, none⟩)
  | 53, x, _ => x = .int .u32 (o.at_ : Int)
  | 54, x, _ => x = .bool wav
  | 55, x, _ => x = .bool false
  | 56, x, _ => x = .bool false
  | _ + 57, _, _ => True
theorem phiOb_mono (mb mm ob : Nat) (o : Op4) (md wav : Bool) (pmv pkv wdv : Int) : ∀ i x w w', phiOb mb mm ob o md wav pmv pkv wdv i x w → Below w.heap.size w w' → phiOb mb mm ob o md wav pmv pkv wdv i x w'
  | 0, _, _, _, h, _ => h
  | 1, _, _, _, h, _ => h
  | 2, _, _, _, h, _ => h
  | 3, _, _, _, h, _ => h
  | 4, _, _, _, h, _ => h
  | 5, _, _, _, h, _ => h
  | 6, _, _, _, h, _ => h
  | 7, _, _, _, h, _ => h
  | 8, _, _, _, h, _ => h
  | 9, _, _, _, h, _ => h
  | 10, _, _, _, h, _ => h
  | 11, _, _, _, h, _ => h
  | 12, _, _, _, h, _ => h
  | 13, _, _, _, h, _ => h
  | 14, _, _, _, h, _ => h
  | 15, _, _, _, h, _ => h
  | 16, _, _, _, h, _ => h
  | 17, _, _, _, h, _ => h
  | 18, _, _, _, h, _ => h
  | 19, _, _, _, h, _ => h
  | 20, _, _, _, h, _ => h
  | 21, _, _, _, h, _ => h
  | 22, _, _, _, h, _ => h
  | 23, _, _, _, h, _ => h
  | 24, _, _, _, h, _ => h
  | 25, _, _, _, h, _ => h
  | 26, _, _, _, h, _ => h
  | 27, _, _, _, h, _ => h
  | 28, _, _, _, h, _ => h
  | 29, _, _, _, h, _ => h
  | 30, _, _, _, h, _ => h
  | 31, _, _, _, h, _ => h
  | 32, _, _, _, h, _ => h
  | 33, _, _, _, h, _ => h
  | 34, _, _, _, h, _ => h
  | 35, _, _, _, h, _ => h
  | 36, _, _, _, h, _ => h
  | 37, _, _, _, h, _ => h
  | 38, _, _, _, h, _ => h
  | 39, _, _, _, h, _ => h
  | 40, _, _, _, h, _ => h
  | 41, _, _, _, h, _ => h
  | 42, _, _, _, h, _ => h
  | 43, _, _, _, h, _ => h
  | 44, _, _, _, h, _ => h
  | 45, _, _, _, h, _ => h
  | 46, _, _, _, h, _ => h
  | 47, _, _, _, h, _ => h
  | 48, _, _, _, h, _ => h
  | 49, _, _, _, h, _ => h
  | 50, _, _, _, h, _ => h
  | 51, _, _, _, h, _ => h
  | 52, _, _, _, h, _ => h
  | 53, _, _, _, h, _ => h
  | 54, _, _, _, h, _ => h
  | 55, _, _, _, h, _ => h
  | 56, _, _, _, h, _ => h
  | _ + 57, _, _, _, _, _ => trivial
theorem listE57 (xs : List Value) (h : xs.length = 57) : ∃ x0 x1 x2 x3 x4 x5 x6 x7 x8 x9 x10 x11 x12 x13 x14 x15 x16 x17 x18 x19 x20 x21 x22 x23 x24 x25 x26 x27 x28 x29 x30 x31 x32 x33 x34 x35 x36 x37 x38 x39 x40 x41 x42 x43 x44 x45 x46 x47 x48 x49 x50 x51 x52 x53 x54 x55 x56, xs = [x0, x1, x2, x3, x4, x5, x6, x7, x8, x9, x10, x11, x12, x13, x14, x15, x16, x17, x18, x19, x20, x21, x22, x23, x24, x25, x26, x27, x28, x29, x30, x31, x32, x33, x34, x35, x36, x37, x38, x39, x40, x41, x42, x43, x44, x45, x46, x47, x48, x49, x50, x51, x52, x53, x54, x55, x56] := by
  obtain ⟨x0, xs1, rfl, h1⟩ := cons_of_len (n := 56) xs h
  obtain ⟨x1, xs2, rfl, h2⟩ := cons_of_len (n := 55) xs1 h1
  obtain ⟨x2, xs3, rfl, h3⟩ := cons_of_len (n := 54) xs2 h2
  obtain ⟨x3, xs4, rfl, h4⟩ := cons_of_len (n := 53) xs3 h3
  obtain ⟨x4, xs5, rfl, h5⟩ := cons_of_len (n := 52) xs4 h4
  obtain ⟨x5, xs6, rfl, h6⟩ := cons_of_len (n := 51) xs5 h5
  obtain ⟨x6, xs7, rfl, h7⟩ := cons_of_len (n := 50) xs6 h6
  obtain ⟨x7, xs8, rfl, h8⟩ := cons_of_len (n := 49) xs7 h7
  obtain ⟨x8, xs9, rfl, h9⟩ := cons_of_len (n := 48) xs8 h8
  obtain ⟨x9, xs10, rfl, h10⟩ := cons_of_len (n := 47) xs9 h9
  obtain ⟨x10, xs11, rfl, h11⟩ := cons_of_len (n := 46) xs10 h10
  obtain ⟨x11, xs12, rfl, h12⟩ := cons_of_len (n := 45) xs11 h11
  obtain ⟨x12, xs13, rfl, h13⟩ := cons_of_len (n := 44) xs12 h12
  obtain ⟨x13, xs14, rfl, h14⟩ := cons_of_len (n := 43) xs13 h13
  obtain ⟨x14, xs15, rfl, h15⟩ := cons_of_len (n := 42) xs14 h14
  obtain ⟨x15, xs16, rfl, h16⟩ := cons_of_len (n := 41) xs15 h15
  obtain ⟨x16, xs17, rfl, h17⟩ := cons_of_len (n := 40) xs16 h16
  obtain ⟨x17, xs18, rfl, h18⟩ := cons_of_len (n := 39) xs17 h17
  obtain ⟨x18, xs19, rfl, h19⟩ := cons_of_len (n := 38) xs18 h18
  obtain ⟨x19, xs20, rfl, h20⟩ := cons_of_len (n := 37) xs19 h19
  obtain ⟨x20, xs21, rfl, h21⟩ := cons_of_len (n := 36) xs20 h20
  obtain ⟨x21, xs22, rfl, h22⟩ := cons_of_len (n := 35) xs21 h21
  obtain ⟨x22, xs23, rfl, h23⟩ := cons_of_len (n := 34) xs22 h22
  obtain ⟨x23, xs24, rfl, h24⟩ := cons_of_len (n := 33) xs23 h23
  obtain ⟨x24, xs25, rfl, h25⟩ := cons_of_len (n := 32) xs24 h24
  obtain ⟨x25, xs26, rfl, h26⟩ := cons_of_len (n := 31) xs25 h25
  obtain ⟨x26, xs27, rfl, h27⟩ := cons_of_len (n := 30) xs26 h26
  obtain ⟨x27, xs28, rfl, h28⟩ := cons_of_len (n := 29) xs27 h27
  obtain ⟨x28, xs29, rfl, h29⟩ := cons_of_len (n := 28) xs28 h28
  obtain ⟨x29, xs30, rfl, h30⟩ := cons_of_len (n := 27) xs29 h29
  obtain ⟨x30, xs31, rfl, h31⟩ := cons_of_len (n := 26) xs30 h30
  obtain ⟨x31, xs32, rfl, h32⟩ := cons_of_len (n := 25) xs31 h31
  obtain ⟨x32, xs33, rfl, h33⟩ := cons_of_len (n := 24) xs32 h32
  obtain ⟨x33, xs34, rfl, h34⟩ := cons_of_len (n := 23) xs33 h33
  obtain ⟨x34, xs35, rfl, h35⟩ := cons_of_len (n := 22) xs34 h34
  obtain ⟨x35, xs36, rfl, h36⟩ := cons_of_len (n := 21) xs35 h35
  obtain ⟨x36, xs37, rfl, h37⟩ := cons_of_len (n := 20) xs36 h36
  obtain ⟨x37, xs38, rfl, h38⟩ := cons_of_len (n := 19) xs37 h37
  obtain ⟨x38, xs39, rfl, h39⟩ := cons_of_len (n := 18) xs38 h38
  obtain ⟨x39, xs40, rfl, h40⟩ := cons_of_len (n := 17) xs39 h39
  obtain ⟨x40, xs41, rfl, h41⟩ := cons_of_len (n := 16) xs40 h40
  obtain ⟨x41, xs42, rfl, h42⟩ := cons_of_len (n := 15) xs41 h41
  obtain ⟨x42, xs43, rfl, h43⟩ := cons_of_len (n := 14) xs42 h42
  obtain ⟨x43, xs44, rfl, h44⟩ := cons_of_len (n := 13) xs43 h43
  obtain ⟨x44, xs45, rfl, h45⟩ := cons_of_len (n := 12) xs44 h44
  obtain ⟨x45, xs46, rfl, h46⟩ := cons_of_len (n := 11) xs45 h45
  obtain ⟨x46, xs47, rfl, h47⟩ := cons_of_len (n := 10) xs46 h46
  obtain ⟨x47, xs48, rfl, h48⟩ := cons_of_len (n := 9) xs47 h47
  obtain ⟨x48, xs49, rfl, h49⟩ := cons_of_len (n := 8) xs48 h48
  obtain ⟨x49, xs50, rfl, h50⟩ := cons_of_len (n := 7) xs49 h49
  obtain ⟨x50, xs51, rfl, h51⟩ := cons_of_len (n := 6) xs50 h50
  obtain ⟨x51, xs52, rfl, h52⟩ := cons_of_len (n := 5) xs51 h51
  obtain ⟨x52, xs53, rfl, h53⟩ := cons_of_len (n := 4) xs52 h52
  obtain ⟨x53, xs54, rfl, h54⟩ := cons_of_len (n := 3) xs53 h53
  obtain ⟨x54, xs55, rfl, h55⟩ := cons_of_len (n := 2) xs54 h54
  obtain ⟨x55, xs56, rfl, h56⟩ := cons_of_len (n := 1) xs55 h55
  obtain ⟨x56, xs57, rfl, h57⟩ := cons_of_len (n := 0) xs56 h56
  obtain rfl := List.eq_nil_of_length_eq_zero h57
  exact ⟨_, _, _, _, _, _, _, _, _, _, _, _, _, _, _, _, _, _, _, _, _, _, _, _, _, _, _, _, _, _, _, _, _, _, _, _, _, _, _, _, _, _, _, _, _, _, _, _, _, _, _, _, _, _, _, _, _, rfl⟩
/-- What the slots of the region hold, whatever the order. -/
def phiBy (mb mm ob N : Nat) (o : Op4) (n : Int) (d : List UInt8) : Nat → Value → World → Prop
  | 0, x, _ => x = .pointer (some ⟨mb, 0, none⟩)
  | 1, x, _ => x = .pointer (some ⟨ob, 2, none⟩)
  | 2, x, _ => x = .int .u32 (o.at_ : Int)
  | 3, x, _ => x = .int .i64 n
  | 4, x, _ => x = .int .i64 (N : Int)
  | 5, x, w => ∃ a c, x = .slice a d.length c ∧ Row w a d c
  | 6, x, _ => x = .string ⟨d.toArray⟩
  | 7, x, _ => x = .pointer (some ⟨mm, 0, none⟩)
  | 8, x, _ => x = .pointer (some ⟨ob, 2, none⟩)
  | 9, x, _ => x = .int .u32 (o.at_ : Int)
  | 10, x, _ => x = .int .i64 n
  | 11, x, _ => x = .int .i64 (N : Int)
  | 12, x, w => ∃ a c, x = .slice a d.length c ∧ Row w a d c
  | 13, x, _ => x = .string ⟨d.toArray⟩
  | 14, x, _ => x = .bool false
  | _ + 15, _, _ => True
theorem phiBy_mono (mb mm ob N : Nat) (o : Op4) (n : Int) (d : List UInt8) : ∀ i x w w', phiBy mb mm ob N o n d i x w → Below w.heap.size w w' → phiBy mb mm ob N o n d i x w'
  | 0, _, _, _, h, _ => h
  | 1, _, _, _, h, _ => h
  | 2, _, _, _, h, _ => h
  | 3, _, _, _, h, _ => h
  | 4, _, _, _, h, _ => h
  | 5, x, w, w', h, hb => by obtain ⟨a, c, e, hr⟩ := h; exact ⟨a, c, e, hr.later hb⟩
  | 6, _, _, _, h, _ => h
  | 7, _, _, _, h, _ => h
  | 8, _, _, _, h, _ => h
  | 9, _, _, _, h, _ => h
  | 10, _, _, _, h, _ => h
  | 11, _, _, _, h, _ => h
  | 12, x, w, w', h, hb => by obtain ⟨a, c, e, hr⟩ := h; exact ⟨a, c, e, hr.later hb⟩
  | 13, _, _, _, h, _ => h
  | 14, _, _, _, h, _ => h
  | _ + 15, _, _, _, _, _ => trivial
theorem listF15 : ∀ xs : List Value, xs.length = 15 → ∃ x0 x1 x2 x3 x4 x5 x6 x7 x8 x9 x10 x11 x12 x13 x14, xs = [x0, x1, x2, x3, x4, x5, x6, x7, x8, x9, x10, x11, x12, x13, x14]
  | [x0, x1, x2, x3, x4, x5, x6, x7, x8, x9, x10, x11, x12, x13, x14], _ => ⟨_, _, _, _, _, _, _, _, _, _, _, _, _, _, _, rfl⟩
def Inv3 (w : World) (L : Nat) (x7 x8 x9 : Value) (wr : World) : Prop := ∃ (k : Nat) (s : MS) (t : S5), k ≤ L ∧ k ≤ 60 ∧ x7 = .pointer (some ⟨s.mb, 0, none⟩) ∧ x8 = .pointer (some ⟨t.m, 0, none⟩) ∧ x9 = .int .i64 (k : Int) ∧ Duo w wr s t ∧ PI s t k
theorem inv3 {w wr : World} {L : Nat} {z : Int} (k : Nat) (s : MS) (t : S5) (h1 : k ≤ L) (h2 : k ≤ 60) (hz : z = (k : Int)) (hd : Duo w wr s t) (hp : PI s t k) : Inv3 w L (.pointer (some ⟨s.mb, 0, none⟩)) (.pointer (some ⟨t.m, 0, none⟩)) (.int .i64 z) wr := ⟨k, s, t, h1, h2, rfl, rfl, by rw [hz], hd, hp⟩
end Go.Proofs.Ytfbmkgdpejgjpaa
