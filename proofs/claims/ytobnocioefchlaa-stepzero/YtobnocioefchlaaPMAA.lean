/- A page in memory: what its block holds, what a store makes of it, what stays of it. -/
import Derived.Test.YtobnocioefchlaaRows
import Derived.WalkKit
import Derived.ProofKit
import Derived.OpenShut
import Derived.Handy
import Derived.Laws.BitsAllLaws
import Derived.Laws.Bits128
import Derived.Laws.ShiftsVarLaws
import Derived.Laws.IdiomStrings
import Derived.Laws.LoneSync
import Derived.Laws.MathBits
import Derived.RowKit
import Derived.Deep.QuietTactic
import Derived.BigQuiet
namespace Go.Proofs.Ytobnocioefchlaa
open Go.ChangeShapes Go.WideShapes Go.ChangeAt Go.RowKit
set_option linter.unusedVariables false
theorem ret_int {k : IntKind} {a b : Int} (h : a = b) : Ending.returned (.int k a) = .returned (.int k b) := by rw [h]
theorem hidden {p : Prop} (h : p) : Hid p := h
theorem ret_bool {a b : Bool} (h : a = b) : Ending.returned (.bool a) = .returned (.bool b) := by rw [h]
theorem info5 : (Try.prog.info? 5).map (fun i => (i.zero, i.size, i.bytes)) = some (some (.int .u8 0), 1, 1) := by kernel_rfl
def cellsU (l : List UInt8) : List Value := l.map fun x => Value.int .u8 (x.toNat : Int)
theorem cellsU_len (l : List UInt8) : (cellsU l).length = l.length := by simp [cellsU]
theorem cellsU_get (l : List UInt8) (j : Nat) (h : j < l.length) : (cellsU l)[j]? = some (Value.int .u8 ((l.getD j 0).toNat : Int)) := by
  simp [cellsU, List.getD_eq_getElem?_getD, List.getElem?_eq_getElem h]
theorem cellsU_append (l m : List UInt8) : cellsU (l ++ m) = cellsU l ++ cellsU m := by simp [cellsU]
theorem cellsU_set (l : List UInt8) (j : Nat) (v : UInt8) : cellsU (l.set j v) = (cellsU l).set j (.int .u8 (v.toNat : Int)) := by simp [cellsU, List.map_set]
theorem cellsU_one (l : List UInt8) : ∀ u ∈ cellsU l, u.oneCell' = true := by
  intro u hu
  simp only [cellsU, List.mem_map] at hu
  obtain ⟨n, _, rfl⟩ := hu
  rfl
/-- The cells of a page: its bytes, its perm, how often it was written. -/
def pcells (l : List UInt8) (perm n : Int) : Array Value := (cellsU l ++ [Value.int .i64 perm, Value.int .i64 n]).toArray
def zeros : List UInt8 := List.replicate 256 0
/-- A page (the program's, or the own answer's). -/
structure Pg (T : TypeId) (w : World) (b : Nat) (l : List UInt8) (perm n : Int) : Prop where
  len : l.length = 256
  blk : w.heap[b]? = some (.cells (pcells l perm n) T (0, 0))
theorem Pg.lt {T : TypeId} {w : World} {b : Nat} {l : List UInt8} {perm n : Int} (h : Pg T w b l perm n) : b < w.heap.size := (Array.getElem?_eq_some_iff.1 h.blk).1
theorem Pg.byte {T : TypeId} {w : World} {b : Nat} {l : List UInt8} {perm n : Int} (h : Pg T w b l perm n) {j : Nat} (hj : j < 256) : w.cell? ⟨b, j, none⟩ = some (.int .u8 ((l.getD j 0).toNat : Int)) := by
  rw [cell_of_row _ _ _ _ _ _ h.blk, pcells, List.getElem?_toArray, List.getElem?_append_left (by rw [cellsU_len, h.len]; exact hj), cellsU_get l j (by rw [h.len]; exact hj)]
theorem Pg.perm {T : TypeId} {w : World} {b : Nat} {l : List UInt8} {perm n : Int} (h : Pg T w b l perm n) : w.cell? ⟨b, 256, none⟩ = some (.int .i64 perm) := by
  rw [cell_of_row _ _ _ _ _ _ h.blk, pcells, List.getElem?_toArray, List.getElem?_append_right (by rw [cellsU_len, h.len]; omega), cellsU_len, h.len]
  rfl
theorem Pg.count {T : TypeId} {w : World} {b : Nat} {l : List UInt8} {perm n : Int} (h : Pg T w b l perm n) : w.cell? ⟨b, 257, none⟩ = some (.int .i64 n) := by
  rw [cell_of_row _ _ _ _ _ _ h.blk, pcells, List.getElem?_toArray, List.getElem?_append_right (by rw [cellsU_len, h.len]; omega), cellsU_len, h.len]
  rfl
theorem Pg.thaw {T : TypeId} {w : World} {b : Nat} {l : List UInt8} {perm n : Int} (h : Pg T w b l perm n) (j : Nat) : w.frozen? ⟨b, j, none⟩ = false := frozen_of_row _ _ _ _ _ h.blk
theorem Pg.setByte {T : TypeId} {w : World} {b : Nat} {l : List UInt8} {perm n : Int} (h : Pg T w b l perm n) {j : Nat} (hj : j < 256) (v : UInt8) : Pg T (w.setCell ⟨b, j, none⟩ (.int .u8 (v.toNat : Int))) b (l.set j v) perm n := by
  refine ⟨by simpa using h.len, ?_⟩
  rw [heap_setCell_same _ _ _ _ _ _ h.blk, pcells, pcells, cellsU_set, List.setIfInBounds_toArray, List.set_append_left _ _ (by rw [cellsU_len, h.len]; exact hj)]
theorem Pg.setPerm {T : TypeId} {w : World} {b : Nat} {l : List UInt8} {perm n : Int} (h : Pg T w b l perm n) (p : Int) : Pg T (w.setCell ⟨b, 256, none⟩ (.int .i64 p)) b l p n := by
  refine ⟨h.len, ?_⟩
  rw [heap_setCell_same _ _ _ _ _ _ h.blk, pcells, pcells, List.setIfInBounds_toArray, List.set_append_right _ _ (by rw [cellsU_len, h.len]; omega), cellsU_len, h.len]
  rfl
theorem Pg.setCount {T : TypeId} {w : World} {b : Nat} {l : List UInt8} {perm n : Int} (h : Pg T w b l perm n) (p : Int) : Pg T (w.setCell ⟨b, 257, none⟩ (.int .i64 p)) b l perm p := by
  refine ⟨h.len, ?_⟩
  rw [heap_setCell_same _ _ _ _ _ _ h.blk, pcells, pcells, List.setIfInBounds_toArray, List.set_append_right _ _ (by rw [cellsU_len, h.len]; omega), cellsU_len, h.len]
  rfl
theorem Pg.same {T : TypeId} {w w' : World} {b : Nat} {l : List UInt8} {perm n : Int} (h : Pg T w b l perm n) (hb : w'.heap[b]? = w.heap[b]?) : Pg T w' b l perm n := ⟨h.len, hb.trans h.blk⟩
theorem Pg.later {T : TypeId} {w w' : World} {b : Nat} {l : List UInt8} {perm n : Int} (h : Pg T w b l perm n) (hb : Below w.heap.size w w') : Pg T w' b l perm n := h.same (hb.block b h.lt)
/-- A block alone has turned. -/
structure Only (b : Nat) (w w' : World) : Prop where
  os : w'.os = w.os
  tape : w'.tape = w.tape
  output : w'.output = w.output
  size : w'.heap.size = w.heap.size
  block : ∀ k, k ≠ b → w'.heap[k]? = w.heap[k]?
theorem Only.refl (b : Nat) (w : World) : Only b w w := ⟨rfl, rfl, rfl, rfl, fun _ _ => rfl⟩
theorem Only.trans {b : Nat} {u v w : World} (h : Only b u v) (k : Only b v w) : Only b u w :=
  ⟨k.os.trans h.os, k.tape.trans h.tape, k.output.trans h.output, k.size.trans h.size, fun i hi => (k.block i hi).trans (h.block i hi)⟩
theorem Only.setCell {b : Nat} {u w : World} (h : Only b u w) (j : Nat) (v : Value) : Only b u (w.setCell ⟨b, j, none⟩ v) :=
  h.trans ⟨rfl, rfl, rfl, by simp [World.setCell], fun k hk => Below.heap_setCell _ _ _ _ hk⟩
theorem Only.drew {b : Nat} {u w : World} (h : Only b u w) : Only b u w.drew := ⟨h.os, h.tape, h.output, h.size, h.block⟩
theorem Only.below {b B : Nat} {u w : World} (h : Only b u w) (hB : B ≤ b) : Below B u w :=
  ⟨h.os, h.tape, h.output, Nat.le_of_eq h.size.symm, fun k hk => h.block k (by omega)⟩
theorem Pg.only {T : TypeId} {w w' : World} {b c : Nat} {l : List UInt8} {perm n : Int} (h : Pg T w b l perm n) (hb : Only c w w') (hne : b ≠ c) : Pg T w' b l perm n := h.same (hb.block b hne)
theorem pg_new (T : TypeId) (w : World) (l : List UInt8) (perm n : Int) (h : l.length = 256) : Pg T (w.alloc (.cells (pcells l perm n) T)) w.heap.size l perm n := ⟨h, heap_alloc_new w _⟩
theorem zeros_len : zeros.length = 256 := List.length_replicate
/-- What stands at a place, and behind a store there. -/
abbrev inB (i : Int) : Prop := 0 ≤ i ∧ i < 256
def getB (l : List UInt8) (i : Int) : UInt8 := if inB i then l.getD i.toNat 0 else 0
def setB (l : List UInt8) (i : Int) (v : UInt8) : List UInt8 := if inB i then l.set i.toNat v else l
def cntB (n i : Int) : Int := if inB i then n + 1 else n
def partB (l : List UInt8) (i n : Int) : List UInt8 := (l.drop i.toNat).take n.toNat
theorem setB_len (l : List UInt8) (i : Int) (v : UInt8) : (setB l i v).length = l.length := by unfold setB; split <;> simp
theorem and7 (n : Int) : bits .and .i64 n 7 = n % 8 := by
  have h7 : (BitVec.ofInt 64 7).toNat = 2 ^ 3 - 1 := by decide
  have key : (BitVec.ofInt 64 n &&& BitVec.ofInt 64 7).toNat = (n % ((2 ^ 64 : Nat) : Int)).toNat % 2 ^ 3 := by
    rw [BitVec.toNat_and, BitVec.toNat_ofInt, h7, Nat.and_two_pow_sub_one_eq_mod]
  show IntKind.i64.wrap ((BitVec.ofInt 64 n &&& BitVec.ofInt 64 7).toNat : Nat) = n % 8
  rw [key, IntKind.wrap_i64]
  omega
end Go.Proofs.Ytobnocioefchlaa
namespace Go.Proofs.Ytobnocioefchlaa
open Go.RowKit

def sg (v : Int) : Int := if v < 2147483648 then v else v - 4294967296
def top (a : Int) : Bool := decide (2147483648 ≤ a)
def add32 (a b : Int) : Int := (a + b) % 4294967296
def sub32 (a b : Int) : Int := (a - b) % 4294967296
def addOv (a b : Int) : Bool := (top a != top (add32 a b)) && (top b != top (add32 a b))
def subOv (a b : Int) : Bool := (top a != top b) && (top a != top (sub32 a b))
def shl32 (v n : Int) : Int := v * 2 ^ (n % 32).toNat % 4294967296
def shr32 (v n : Int) : Int := v / 2 ^ (n % 32).toNat
def sar32 (v n : Int) : Int := sg v / 2 ^ (n % 32).toNat % 4294967296
def clip (v lo hi : Int) : Int := if v < lo then lo else if hi < v then hi else v
def sext32 (v n : Int) : Int := sg (v * 2 ^ (32 - clip n 1 32).toNat % 4294967296) / 2 ^ (32 - clip n 1 32).toNat % 4294967296
def field32 (v a n : Int) : Int := v / 2 ^ (clip a 0 31).toNat % 2 ^ (clip n 0 (32 - clip a 0 31)).toNat

def sgs (s : Bool) (v : Int) : Int := match s with
  | true => sg v
  | false => v
theorem sgsT (v : Int) : sgs true v = sg v := rfl
theorem sgsF (v : Int) : sgs false v = v := rfl
theorem sg_range {v : Int} (h0 : 0 ≤ v) (h1 : v < 4294967296) : -2147483648 ≤ sg v ∧ sg v < 2147483648 := by
  unfold sg; split <;> omega
theorem wrap32_sg {v : Int} (h0 : 0 ≤ v) (h1 : v < 4294967296) : wrap32 v = sg v := by
  unfold wrap32 sg; split <;> omega
theorem add32_range (a b : Int) : 0 ≤ add32 a b ∧ add32 a b < 4294967296 := by unfold add32; omega
theorem sub32_range (a b : Int) : 0 ≤ sub32 a b ∧ sub32 a b < 4294967296 := by unfold sub32; omega
theorem shl32_range (a b : Int) : 0 ≤ shl32 a b ∧ shl32 a b < 4294967296 := by unfold shl32; omega
theorem sar32_range (a b : Int) : 0 ≤ sar32 a b ∧ sar32 a b < 4294967296 := by unfold sar32; omega
theorem sext32_range (a b : Int) : 0 ≤ sext32 a b ∧ sext32 a b < 4294967296 := by unfold sext32; omega
theorem div_pow_range {v : Int} (k : Nat) (h0 : 0 ≤ v) (h1 : v < 4294967296) : 0 ≤ v / 2 ^ k ∧ v / 2 ^ k < 4294967296 := by
  have hp : (0 : Int) < 2 ^ k := Int.pow_pos (by omega)
  exact ⟨Int.ediv_nonneg h0 (Int.le_of_lt hp), Int.lt_of_le_of_lt (Int.ediv_le_self _ h0) h1⟩
theorem shr32_range {a : Int} (b : Int) (h0 : 0 ≤ a) (h1 : a < 4294967296) : 0 ≤ shr32 a b ∧ shr32 a b < 4294967296 := div_pow_range _ h0 h1
theorem and31 (n : Int) (h0 : 0 ≤ n) (h1 : n < 4294967296) : bits .and .u32 n 31 = n % 32 := by
  rw [u32_and n 31 h0 h1 (by omega) (by omega)]
  obtain ⟨m, rfl⟩ := Int.eq_ofNat_of_zero_le h0
  have := Nat.and_two_pow_sub_one_eq_mod m 5
  simp at this
  simp [this]
/-- The highest bit, by the mask. -/
theorem mask31 (n : Nat) (h : n < 4294967296) : (n &&& 2147483648 = 0) ↔ n < 2147483648 := by
  have e := and_two_pow_eq_zero (n : Int) 31 (by omega)
  have e2 : ((2 : Int) ^ 31).toNat = 2147483648 := by decide
  have e3 : ((2 : Int) ^ 31) = 2147483648 := by decide
  rw [e2, e3, Int.toNat_natCast] at e
  rw [e]
  omega
theorem top_xor (a b : Nat) (ha : a < 4294967296) (hb : b < 4294967296) : decide (2147483648 ≤ a ^^^ b) = (decide (2147483648 ≤ a) != decide (2147483648 ≤ b)) := by
  have tb : ∀ n : Nat, n < 4294967296 → n.testBit 31 = decide (2147483648 ≤ n) := by
    intro n hn
    rw [Nat.testBit_eq_decide_div_mod_eq]
    congr 1
    apply propext
    constructor <;> intro h <;> omega
  have hx : a ^^^ b < 2 ^ 32 := Nat.xor_lt_two_pow (by omega) (by omega)
  rw [← tb _ (by omega), ← tb a ha, ← tb b hb, Nat.testBit_xor]
theorem top_and (a b : Nat) (ha : a < 4294967296) (hb : b < 4294967296) : decide (2147483648 ≤ a &&& b) = (decide (2147483648 ≤ a) && decide (2147483648 ≤ b)) := by
  have tb : ∀ n : Nat, n < 4294967296 → n.testBit 31 = decide (2147483648 ≤ n) := by
    intro n hn
    rw [Nat.testBit_eq_decide_div_mod_eq]
    congr 1
    apply propext
    constructor <;> intro h <;> omega
  have hx : a &&& b < 2 ^ 32 := Nat.and_lt_two_pow _ (by omega)
  rw [← tb _ (by omega), ← tb a ha, ← tb b hb, Nat.testBit_and]
theorem top_nat (n : Nat) : top (n : Int) = decide (2147483648 ≤ n) := by unfold top; congr 1; apply propext; constructor <;> intro h <;> omega
theorem u32_xor_range (a b : Int) (h1 : 0 ≤ a) (h2 : a < 4294967296) (h3 : 0 ≤ b) (h4 : b < 4294967296) : 0 ≤ bits .xor .u32 a b ∧ bits .xor .u32 a b < 4294967296 := by
  rw [u32_xor a b h1 h2 h3 h4]
  have hx : a.toNat ^^^ b.toNat < 2 ^ 32 := Nat.xor_lt_two_pow (by omega) (by omega)
  omega
theorem u32_and_range (a b : Int) (h1 : 0 ≤ a) (h2 : a < 4294967296) (h3 : 0 ≤ b) (h4 : b < 4294967296) : 0 ≤ bits .and .u32 a b ∧ bits .and .u32 a b < 4294967296 := by
  rw [u32_and a b h1 h2 h3 h4]
  have hx : a.toNat &&& b.toNat < 2 ^ 32 := Nat.and_lt_two_pow _ (by omega)
  omega
theorem top_toNat (a : Int) (h1 : 0 ≤ a) : decide (2147483648 ≤ a.toNat) = top a := by
  obtain ⟨m, rfl⟩ := Int.eq_ofNat_of_zero_le h1
  rw [top_nat]; simp
theorem top_bxor (a b : Int) (h1 : 0 ≤ a) (h2 : a < 4294967296) (h3 : 0 ≤ b) (h4 : b < 4294967296) : top (bits .xor .u32 a b) = (top a != top b) := by
  rw [u32_xor a b h1 h2 h3 h4, top_nat, top_xor _ _ (by omega) (by omega), top_toNat a h1, top_toNat b h3]
theorem top_band (a b : Int) (h1 : 0 ≤ a) (h2 : a < 4294967296) (h3 : 0 ≤ b) (h4 : b < 4294967296) : top (bits .and .u32 a b) = (top a && top b) := by
  rw [u32_and a b h1 h2 h3 h4, top_nat, top_and _ _ (by omega) (by omega), top_toNat a h1, top_toNat b h3]
theorem mask_top (a : Int) (h1 : 0 ≤ a) (h2 : a < 4294967296) : (bits .and .u32 a 2147483648 != 0) = top a := by
  rw [u32_and a _ h1 h2 (by omega) (by omega)]
  obtain ⟨m, rfl⟩ := Int.eq_ofNat_of_zero_le h1
  have h := mask31 m (by omega)
  rw [top_nat]
  by_cases hm : m < 2147483648
  · have : ¬ 2147483648 ≤ m := by omega
    have e := h.2 hm
    simp [this, e]
  · have : 2147483648 ≤ m := by omega
    have e : ¬ (m &&& 2147483648 = 0) := fun x => hm (h.1 x)
    simp [this, e]
theorem addOver_eq (a b : Int) (h1 : 0 ≤ a) (h2 : a < 4294967296) (h3 : 0 ≤ b) (h4 : b < 4294967296) :
    (bits .and .u32 (bits .and .u32 (bits .xor .u32 a ((a + b) % 4294967296)) (bits .xor .u32 b ((a + b) % 4294967296))) 2147483648 != 0) = addOv a b := by
  have hs := add32_range a b
  have hx := u32_xor_range a (add32 a b) h1 h2 hs.1 hs.2
  have hy := u32_xor_range b (add32 a b) h3 h4 hs.1 hs.2
  have hz := u32_and_range _ _ hx.1 hx.2 hy.1 hy.2
  show (bits .and .u32 (bits .and .u32 (bits .xor .u32 a (add32 a b)) (bits .xor .u32 b (add32 a b))) 2147483648 != 0) = _
  rw [mask_top _ hz.1 hz.2, top_band _ _ hx.1 hx.2 hy.1 hy.2, top_bxor _ _ h1 h2 hs.1 hs.2, top_bxor _ _ h3 h4 hs.1 hs.2]
  rfl
theorem subOver_eq (a b : Int) (h1 : 0 ≤ a) (h2 : a < 4294967296) (h3 : 0 ≤ b) (h4 : b < 4294967296) :
    (bits .and .u32 (bits .and .u32 (bits .xor .u32 a b) (bits .xor .u32 a ((a - b) % 4294967296))) 2147483648 != 0) = subOv a b := by
  have hs := sub32_range a b
  have hx := u32_xor_range a b h1 h2 h3 h4
  have hy := u32_xor_range a (sub32 a b) h1 h2 hs.1 hs.2
  have hz := u32_and_range _ _ hx.1 hx.2 hy.1 hy.2
  show (bits .and .u32 (bits .and .u32 (bits .xor .u32 a b) (bits .xor .u32 a (sub32 a b))) 2147483648 != 0) = _
  rw [mask_top _ hz.1 hz.2, top_band _ _ hx.1 hx.2 hy.1 hy.2, top_bxor _ _ h1 h2 h3 h4, top_bxor _ _ h1 h2 hs.1 hs.2]
  rfl

def mulHi (a b : Int) : Int := IntKind.u64.wrap (a * b) / 4294967296 % 4294967296
def mulLo (a b : Int) : Int := IntKind.u64.wrap (a * b) % 4294967296
theorem wrap64_sg {v : Int} (h0 : 0 ≤ v) (h1 : v < 4294967296) : wrap64 (sg v) = sg v := by
  have := sg_range h0 h1
  unfold wrap64; omega
theorem prod_range (x y : Int) (hx : -2147483648 ≤ x ∧ x < 2147483648) (hy : -2147483648 ≤ y ∧ y < 2147483648) : -4611686018427387904 ≤ x * y ∧ x * y ≤ 4611686018427387904 := by
  have a1 : x.natAbs ≤ 2147483648 := by omega
  have a2 : y.natAbs ≤ 2147483648 := by omega
  have h := Nat.mul_le_mul a1 a2
  rw [← Int.natAbs_mul] at h
  generalize x * y = p at h
  omega
theorem wrap64_sgmul {a b : Int} (h1 : 0 ≤ a) (h2 : a < 4294967296) (h3 : 0 ≤ b) (h4 : b < 4294967296) : wrap64 (sg a * sg b) = sg a * sg b := by
  have h := prod_range _ _ (sg_range h1 h2) (sg_range h3 h4)
  generalize sg a * sg b = p at h
  unfold wrap64; omega

def quoT (a b : Int) : Int := wrap32 ((sg a).tdiv (sg b)) % 4294967296
def remT (a b : Int) : Int := (sg a).tmod (sg b) % 4294967296
theorem tmod_range (v n : Int) (h : 0 < n) : -n < v.tmod n ∧ v.tmod n < n := by
  refine ⟨Int.lt_tmod_of_pos v h, Int.tmod_lt_of_pos v h⟩
theorem place_nonneg (v n : Int) (h : 0 < n) (hm : 0 ≤ v.tmod n) : v.tmod n = v % n := by
  have e := Int.mul_tdiv_add_tmod v n
  have r := tmod_range v n h
  have : v % n = (v.tmod n) % n := by
    conv => lhs; rw [← e]
    rw [Int.mul_add_emod_self_left]
  rw [this, Int.emod_eq_of_lt hm r.2]
theorem place_neg (v n : Int) (h : 0 < n) (hm : v.tmod n < 0) : v.tmod n + n = v % n := by
  have e := Int.mul_tdiv_add_tmod v n
  have r := tmod_range v n h
  have : v % n = (v.tmod n + n) % n := by
    conv => lhs; rw [← e]
    rw [Int.mul_add_emod_self_left, Int.add_emod_right]
  rw [this, Int.emod_eq_of_lt (by omega) (by omega)]
theorem clip_range (v lo hi : Int) (h : lo ≤ hi) : lo ≤ clip v lo hi ∧ clip v lo hi ≤ hi := by unfold clip; split <;> (try split) <;> omega
theorem pow_cast (k : Nat) : ((2 ^ k : Nat) : Int) = 2 ^ k := by simp
theorem pow_le32 {k : Nat} (h : k ≤ 32) : (1 : Int) ≤ 2 ^ k ∧ (2 : Int) ^ k ≤ 4294967296 := by
  have a := Nat.pow_le_pow_right (n := 2) (by omega) h
  have b := Nat.two_pow_pos k
  rw [← pow_cast]
  simp only [Nat.reducePow] at a
  omega
theorem field_eq (a at_ n : Int) (h1 : 0 ≤ a) (h2 : a < 4294967296) :
    bits .and .u32 (a / 2 ^ (clip at_ 0 31).toNat) ((2 ^ (clip n 0 (32 - clip at_ 0 31)).toNat - 1) % 4294967296) = field32 a at_ n := by
  have hc := clip_range at_ 0 31 (by omega)
  have hd := clip_range n 0 (32 - clip at_ 0 31) (by omega)
  unfold field32
  generalize clip n 0 (32 - clip at_ 0 31) = m at *
  have hx := div_pow_range (clip at_ 0 31).toNat h1 h2
  generalize a / 2 ^ (clip at_ 0 31).toNat = x at *
  obtain ⟨k, rfl⟩ := Int.eq_ofNat_of_zero_le hd.1
  obtain ⟨y, rfl⟩ := Int.eq_ofNat_of_zero_le hx.1
  rw [Int.toNat_natCast]
  have hk : k ≤ 32 := by omega
  have hp := pow_le32 hk
  have e : ((2 : Int) ^ k - 1) % 4294967296 = ((2 ^ k - 1 : Nat) : Int) := by
    rw [Int.emod_eq_of_lt (by omega) (by omega), ← pow_cast]
    have := Nat.two_pow_pos k
    omega
  have hp' : 2 ^ k - 1 < 4294967296 := by
    have := pow_cast k
    omega
  rw [e, u32_and_nat y (2 ^ k - 1) (by omega) hp', Nat.and_two_pow_sub_one_eq_mod, ← pow_cast]
  simp

theorem wrap64_small (n : Int) (h : 0 ≤ n ∧ n ≤ 4294967296) : wrap64 n = n := by unfold wrap64; omega
theorem len_shift (a : Int) (k : Nat) (h0 : 0 ≤ a) (h : a / 2 ^ k ≠ 0) : bitLen a.toNat = k + bitLen (a / 2 ^ k).toNat := by
  obtain ⟨n, rfl⟩ := Int.eq_ofNat_of_zero_le h0
  rw [← pow_cast, ← Int.natCast_ediv] at h ⊢
  rw [Int.toNat_natCast, Int.toNat_natCast]
  exact bitLen_shift n k (by omega)
def zeros32 (a : Int) : Int := 32 - bitLen a.toNat
theorem bitLen_le32 (a : Int) (h1 : 0 ≤ a) (h2 : a < 4294967296) : bitLen a.toNat ≤ 32 := by
  unfold bitLen
  split
  · omega
  · rename_i h0
    have := (Nat.log2_lt h0).2 (show a.toNat < 2 ^ 32 by omega)
    omega
theorem zeros32_range (a : Int) (h1 : 0 ≤ a) (h2 : a < 4294967296) : 0 ≤ zeros32 a ∧ zeros32 a ≤ 32 := by
  have := bitLen_le32 a h1 h2
  unfold zeros32; omega

theorem max_u32 : IntKind.u32.max = 4294967295 := by decide
theorem not32 (a : Int) (h1 : 0 ≤ a) (h2 : a < 4294967296) : bits .xor .u32 IntKind.u32.max a = 4294967295 - a := by
  rw [max_u32, u32_xor _ a (by omega) (by omega) h1 h2]
  obtain ⟨n, rfl⟩ := Int.eq_ofNat_of_zero_le h1
  have e : BitVec.allOnes 32 ^^^ BitVec.ofNat 32 n = ~~~ BitVec.ofNat 32 n := BitVec.allOnes_xor
  have e2 := congrArg BitVec.toNat e
  rw [BitVec.toNat_xor, BitVec.toNat_not, BitVec.toNat_allOnes, BitVec.toNat_ofNat, Nat.mod_eq_of_lt (by omega)] at e2
  simp only [Int.toNat_natCast]
  have e3 : (4294967295 : Int).toNat = 2 ^ 32 - 1 := by decide
  rw [e3, e2]
  omega
end Go.Proofs.Ytobnocioefchlaa
namespace Go.Proofs.Ytobnocioefchlaa
open Go.ChangeShapes Go.WideShapes Go.ChangeAt Go.RowKit
set_option linter.unusedVariables false
theorem ret_int2 {k l : IntKind} {a b c d : Int} (h : a = b) (h2 : c = d) : Ending.returned (.tuple #[.int k a, .int l c]) = .returned (.tuple #[.int k b, .int l d]) := by rw [h, h2]
theorem ret_intb {k : IntKind} {a b : Int} {c d : Bool} (h : a = b) (h2 : c = d) : Ending.returned (.tuple #[.int k a, .bool c]) = .returned (.tuple #[.int k b, .bool d]) := by rw [h, h2]

theorem cut_any (v lo hi : Int) (w : World) :
    Calls Try.prog 101 #[.int .i64 v, .int .i64 lo, .int .i64 hi] w fun e w' => e = .returned (.int .i64 (clip v lo hi)) ∧ w' = w := by
  by_cases a : v < lo
  · have e : clip v lo hi = lo := by unfold clip; simp [a]
    rw [e]
    go_enter Try.func101, Try.ntmps101
    go_wp2
    go_ret
    exact ⟨ret_int rfl, rfl⟩
  · by_cases b : hi < v
    · have e : clip v lo hi = hi := by unfold clip; simp [a, b]
      rw [e]
      go_enter Try.func101, Try.ntmps101
      go_wp2
      go_ret
      exact ⟨ret_int rfl, rfl⟩
    · have e : clip v lo hi = v := by unfold clip; simp [a, b]
      rw [e]
      go_enter Try.func101, Try.ntmps101
      go_wp2
      go_ret
      exact ⟨ret_int rfl, rfl⟩
theorem field_any (a at_ n : Int) (h1 : 0 ≤ a) (h2 : a < 4294967296) (w : World) :
    Calls Try.prog 89 #[.int .u32 a, .int .i64 at_, .int .i64 n] w fun e w' => e = .returned (.int .u32 (field32 a at_ n)) ∧ w' = w := by
  have hc := clip_range at_ 0 31 (by omega)
  have hd := clip_range n 0 (32 - clip at_ 0 31) (by omega)
  go_enter Try.func89, Try.ntmps89
  go_wp2_with (go_at_call 101; refine (cut_any _ _ _ _).mono ?_; rintro e w' ⟨rfl, rfl⟩)
  go_ret
  exact ⟨ret_int (field_eq a at_ n h1 h2), rfl⟩
theorem refSext_any (a n : Int) (h1 : 0 ≤ a) (h2 : a < 4294967296) (w : World) :
    Calls Try.prog 100 #[.int .u32 a, .int .i64 n] w fun e w' => e = .returned (.int .u32 (sext32 a n)) ∧ w' = w := by
  unfold sext32
  by_cases m1 : n < 1
  · have hw := wrap32_sg (v := a * 2147483648 % 4294967296) (by omega) (by omega)
    rw [show clip n 1 32 = 1 by unfold clip; simp [m1]]
    go_enter Try.func100, Try.ntmps100
    go_wp2
    go_ret
    exact ⟨ret_int (by simp), rfl⟩
  · by_cases m2 : 32 < n
    · have hw := wrap32_sg (v := a % 4294967296) (by omega) (by omega)
      rw [show clip n 1 32 = 32 by unfold clip; simp [m1, m2]]
      go_enter Try.func100, Try.ntmps100
      go_wp2
      go_ret
      exact ⟨ret_int (by rw [Int.emod_eq_of_lt h1 h2, wrap32_sg h1 h2]), rfl⟩
    · have hw := wrap32_sg (v := a * 2 ^ (32 - n).toNat % 4294967296) (by omega) (by omega)
      rw [show clip n 1 32 = n by unfold clip; simp [m1, m2]]
      go_enter Try.func100, Try.ntmps100
      go_wp2
      go_ret
      exact ⟨ret_int rfl, rfl⟩
theorem refPut_any (a : Int) (h1 : 0 ≤ a) (h2 : a < 4294967296) (w : World) :
    Calls Try.prog 14 #[.int .u32 a] w fun e w' => e = .returned (.slice (some ⟨w.heap.size, 0, none⟩) 4 4) ∧ w' = w.alloc (.cells #[.int .u8 (a / 16777216), .int .u8 (a / 65536 % 256), .int .u8 (a / 256 % 256), .int .u8 (a % 256)] 5) := by
  go_enter Try.func14, Try.ntmps14
  go_wp2
  go_ret
  exact ⟨rfl, rfl⟩
end Go.Proofs.Ytobnocioefchlaa
