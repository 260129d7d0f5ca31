/- A page in memory: what its block holds, what a store makes of it, what stays of it. -/
import Derived.Test.YtodoenimlhldjaaRows
import Derived.WalkKit
import Derived.ProofKit
import Derived.OpenShut
import Derived.Handy
import Derived.Laws.BitsAllLaws
import Derived.Laws.Bits128
import Derived.Laws.ShiftsVarLaws
import Derived.Laws.IdiomStrings
import Derived.Laws.LoneSync
namespace Go.Proofs.Ytodoenimlhldjaa
open Go.ChangeShapes Go.WideShapes Go.ChangeAt Go.RowKit
set_option linter.unusedVariables false
theorem ret_int {k : IntKind} {a b : Int} (h : a = b) : Ending.returned (.int k a) = .returned (.int k b) := by rw [h]
theorem hidden {p : Prop} (h : p) : Hid p := h
theorem ret_bool {a b : Bool} (h : a = b) : Ending.returned (.bool a) = .returned (.bool b) := by rw [h]
theorem info5 : (Try.prog.info? 5).map (fun i => (i.zero, i.size, i.bytes)) = some (some (.int .u8 0), 1, 1) := by kernel_rfl
def cellsU (l : List UInt8) : List Value := l.map fun x => Value.int .u8 (x.toNat : Int)
theorem cellsU_len (l : List UInt8) : (cellsU l).length = l.length := by simp [cellsU]
theorem cellsU_get (l : List UInt8) (j : Nat) (h : j < l.length) : (cellsU l)[j]? = some (Value.int .u8 ((l.getD j 0).toNat : Int)) := by
  simp [cellsU, List.getD_eq_getElem?_getD, List.getElem?_eq_getElem h]
theorem cellsU_append (l m : List UInt8) : cellsU (l ++ m) = cellsU l ++ cellsU m := by simp [cellsU]
theorem cellsU_set (l : List UInt8) (j : Nat) (v : UInt8) : cellsU (l.set j v) = (cellsU l).set j (.int .u8 (v.toNat : Int)) := by simp [cellsU, List.map_set]
theorem cellsU_one (l : List UInt8) : ∀ u ∈ cellsU l, u.oneCell' = true := by
  intro u hu
  simp only [cellsU, List.mem_map] at hu
  obtain ⟨n, _, rfl⟩ := hu
  rfl
/-- The cells of a page: its bytes, its perm, how often it was written. -/
def pcells (l : List UInt8) (perm n : Int) : Array Value := (cellsU l ++ [Value.int .i64 perm, Value.int .i64 n]).toArray
def zeros : List UInt8 := List.replicate 256 0
/-- A page (the program's, or the own answer's). -/
structure Pg (T : TypeId) (w : World) (b : Nat) (l : List UInt8) (perm n : Int) : Prop where
  len : l.length = 256
  blk : w.heap[b]? = some (.cells (pcells l perm n) T (0, 0))
theorem Pg.lt {T : TypeId} {w : World} {b : Nat} {l : List UInt8} {perm n : Int} (h : Pg T w b l perm n) : b < w.heap.size := (Array.getElem?_eq_some_iff.1 h.blk).1
theorem Pg.byte {T : TypeId} {w : World} {b : Nat} {l : List UInt8} {perm n : Int} (h : Pg T w b l perm n) {j : Nat} (hj : j < 256) : w.cell? ⟨b, j, none⟩ = some (.int .u8 ((l.getD j 0).toNat : Int)) := by
  rw [cell_of_row _ _ _ _ _ _ h.blk, pcells, List.getElem?_toArray, List.getElem?_append_left (by rw [cellsU_len, h.len]; exact hj), cellsU_get l j (by rw [h.len]; exact hj)]
theorem Pg.perm {T : TypeId} {w : World} {b : Nat} {l : List UInt8} {perm n : Int} (h : Pg T w b l perm n) : w.cell? ⟨b, 256, none⟩ = some (.int .i64 perm) := by
  rw [cell_of_row _ _ _ _ _ _ h.blk, pcells, List.getElem?_toArray, List.getElem?_append_right (by rw [cellsU_len, h.len]; omega), cellsU_len, h.len]
  rfl
theorem Pg.count {T : TypeId} {w : World} {b : Nat} {l : List UInt8} {perm n : Int} (h : Pg T w b l perm n) : w.cell? ⟨b, 257, none⟩ = some (.int .i64 n) := by
  rw [cell_of_row _ _ _ _ _ _ h.blk, pcells, List.getElem?_toArray, List.getElem?_append_right (by rw [cellsU_len, h.len]; omega), cellsU_len, h.len]
  rfl
theorem Pg.thaw {T : TypeId} {w : World} {b : Nat} {l : List UInt8} {perm n : Int} (h : Pg T w b l perm n) (j : Nat) : w.frozen? ⟨b, j, none⟩ = false := frozen_of_row _ _ _ _ _ h.blk
theorem Pg.setByte {T : TypeId} {w : World} {b : Nat} {l : List UInt8} {perm n : Int} (h : Pg T w b l perm n) {j : Nat} (hj : j < 256) (v : UInt8) : Pg T (w.setCell ⟨b, j, none⟩ (.int .u8 (v.toNat : Int))) b (l.set j v) perm n := by
  refine ⟨by simpa using h.len, ?_⟩
  rw [heap_setCell_same _ _ _ _ _ _ h.blk, pcells, pcells, cellsU_set, List.setIfInBounds_toArray, List.set_append_left _ _ (by rw [cellsU_len, h.len]; exact hj)]
theorem Pg.setPerm {T : TypeId} {w : World} {b : Nat} {l : List UInt8} {perm n : Int} (h : Pg T w b l perm n) (p : Int) : Pg T (w.setCell ⟨b, 256, none⟩ (.int .i64 p)) b l p n := by
  refine ⟨h.len, ?_⟩
  rw [heap_setCell_same _ _ _ _ _ _ h.blk, pcells, pcells, List.setIfInBounds_toArray, List.set_append_right _ _ (by rw [cellsU_len, h.len]; omega), cellsU_len, h.len]
  rfl
theorem Pg.setCount {T : TypeId} {w : World} {b : Nat} {l : List UInt8} {perm n : Int} (h : Pg T w b l perm n) (p : Int) : Pg T (w.setCell ⟨b, 257, none⟩ (.int .i64 p)) b l perm p := by
  refine ⟨h.len, ?_⟩
  rw [heap_setCell_same _ _ _ _ _ _ h.blk, pcells, pcells, List.setIfInBounds_toArray, List.set_append_right _ _ (by rw [cellsU_len, h.len]; omega), cellsU_len, h.len]
  rfl
theorem Pg.same {T : TypeId} {w w' : World} {b : Nat} {l : List UInt8} {perm n : Int} (h : Pg T w b l perm n) (hb : w'.heap[b]? = w.heap[b]?) : Pg T w' b l perm n := ⟨h.len, hb.trans h.blk⟩
theorem Pg.later {T : TypeId} {w w' : World} {b : Nat} {l : List UInt8} {perm n : Int} (h : Pg T w b l perm n) (hb : Below w.heap.size w w') : Pg T w' b l perm n := h.same (hb.block b h.lt)
/-- A block alone has turned. -/
structure Only (b : Nat) (w w' : World) : Prop where
  os : w'.os = w.os
  tape : w'.tape = w.tape
  output : w'.output = w.output
  size : w'.heap.size = w.heap.size
  block : ∀ k, k ≠ b → w'.heap[k]? = w.heap[k]?
theorem Only.refl (b : Nat) (w : World) : Only b w w := ⟨rfl, rfl, rfl, rfl, fun _ _ => rfl⟩
theorem Only.trans {b : Nat} {u v w : World} (h : Only b u v) (k : Only b v w) : Only b u w :=
  ⟨k.os.trans h.os, k.tape.trans h.tape, k.output.trans h.output, k.size.trans h.size, fun i hi => (k.block i hi).trans (h.block i hi)⟩
theorem Only.setCell {b : Nat} {u w : World} (h : Only b u w) (j : Nat) (v : Value) : Only b u (w.setCell ⟨b, j, none⟩ v) :=
  h.trans ⟨rfl, rfl, rfl, by simp [World.setCell], fun k hk => Below.heap_setCell _ _ _ _ hk⟩
theorem Only.drew {b : Nat} {u w : World} (h : Only b u w) : Only b u w.drew := ⟨h.os, h.tape, h.output, h.size, h.block⟩
theorem Only.below {b B : Nat} {u w : World} (h : Only b u w) (hB : B ≤ b) : Below B u w :=
  ⟨h.os, h.tape, h.output, Nat.le_of_eq h.size.symm, fun k hk => h.block k (by omega)⟩
theorem Pg.only {T : TypeId} {w w' : World} {b c : Nat} {l : List UInt8} {perm n : Int} (h : Pg T w b l perm n) (hb : Only c w w') (hne : b ≠ c) : Pg T w' b l perm n := h.same (hb.block b hne)
theorem pg_new (T : TypeId) (w : World) (l : List UInt8) (perm n : Int) (h : l.length = 256) : Pg T (w.alloc (.cells (pcells l perm n) T)) w.heap.size l perm n := ⟨h, heap_alloc_new w _⟩
theorem zeros_len : zeros.length = 256 := List.length_replicate
/-- What stands at a place, and behind a store there. -/
abbrev inB (i : Int) : Prop := 0 ≤ i ∧ i < 256
def getB (l : List UInt8) (i : Int) : UInt8 := if inB i then l.getD i.toNat 0 else 0
def setB (l : List UInt8) (i : Int) (v : UInt8) : List UInt8 := if inB i then l.set i.toNat v else l
def cntB (n i : Int) : Int := if inB i then n + 1 else n
def partB (l : List UInt8) (i n : Int) : List UInt8 := (l.drop i.toNat).take n.toNat
theorem setB_len (l : List UInt8) (i : Int) (v : UInt8) : (setB l i v).length = l.length := by unfold setB; split <;> simp
theorem and7 (n : Int) : bits .and .i64 n 7 = n % 8 := by
  have h7 : (BitVec.ofInt 64 7).toNat = 2 ^ 3 - 1 := by decide
  have key : (BitVec.ofInt 64 n &&& BitVec.ofInt 64 7).toNat = (n % ((2 ^ 64 : Nat) : Int)).toNat % 2 ^ 3 := by
    rw [BitVec.toNat_and, BitVec.toNat_ofInt, h7, Nat.and_two_pow_sub_one_eq_mod]
  show IntKind.i64.wrap ((BitVec.ofInt 64 n &&& BitVec.ofInt 64 7).toNat : Nat) = n % 8
  rw [key, IntKind.wrap_i64]
  omega
end Go.Proofs.Ytodoenimlhldjaa
