/- A page in memory: what its block holds, what a store makes of it, what stays of it. -/
import Derived.Test.YtodoenimlhldjaaRows
import Derived.WalkKit
import Derived.ProofKit
import Derived.OpenShut
import Derived.Handy
import Derived.Laws.BitsAllLaws
import Derived.Laws.Bits128
import Derived.Laws.ShiftsVarLaws
import Derived.Laws.IdiomStrings
import Derived.Laws.LoneSync
import Derived.RegionTactic
import Derived.RegionCalls
import Derived.Outline
namespace Go.Proofs.Ytodoenimlhldjaa
open Go.ChangeShapes Go.WideShapes Go.ChangeAt Go.RowKit
set_option linter.unusedVariables false
theorem ret_int {k : IntKind} {a b : Int} (h : a = b) : Ending.returned (.int k a) = .returned (.int k b) := by rw [h]
theorem hidden {p : Prop} (h : p) : Hid p := h
theorem ret_bool {a b : Bool} (h : a = b) : Ending.returned (.bool a) = .returned (.bool b) := by rw [h]
theorem info5 : (Try.prog.info? 5).map (fun i => (i.zero, i.size, i.bytes)) = some (some (.int .u8 0), 1, 1) := by kernel_rfl
def cellsU (l : List UInt8) : List Value := l.map fun x => Value.int .u8 (x.toNat : Int)
theorem cellsU_len (l : List UInt8) : (cellsU l).length = l.length := by simp [cellsU]
theorem cellsU_get (l : List UInt8) (j : Nat) (h : j < l.length) : (cellsU l)[j]? = some (Value.int .u8 ((l.getD j 0).toNat : Int)) := by
  simp [cellsU, List.getD_eq_getElem?_getD, List.getElem?_eq_getElem h]
theorem cellsU_append (l m : List UInt8) : cellsU (l ++ m) = cellsU l ++ cellsU m := by simp [cellsU]
theorem cellsU_set (l : List UInt8) (j : Nat) (v : UInt8) : cellsU (l.set j v) = (cellsU l).set j (.int .u8 (v.toNat : Int)) := by simp [cellsU, List.map_set]
theorem cellsU_one (l : List UInt8) : ∀ u ∈ cellsU l, u.oneCell' = true := by
  intro u hu
  simp only [cellsU, List.mem_map] at hu
  obtain ⟨n, _, rfl⟩ := hu
  rfl
/-- The cells of a page: its bytes, its perm, how often it was written. -/
def pcells (l : List UInt8) (perm n : Int) : Array Value := (cellsU l ++ [Value.int .i64 perm, Value.int .i64 n]).toArray
def zeros : List UInt8 := List.replicate 256 0
/-- A page (the program's, or the own answer's). -/
structure Pg (T : TypeId) (w : World) (b : Nat) (l : List UInt8) (perm n : Int) : Prop where
  len : l.length = 256
  blk : w.heap[b]? = some (.cells (pcells l perm n) T (0, 0))
theorem Pg.lt {T : TypeId} {w : World} {b : Nat} {l : List UInt8} {perm n : Int} (h : Pg T w b l perm n) : b < w.heap.size := (Array.getElem?_eq_some_iff.1 h.blk).1
theorem Pg.byte {T : TypeId} {w : World} {b : Nat} {l : List UInt8} {perm n : Int} (h : Pg T w b l perm n) {j : Nat} (hj : j < 256) : w.cell? ⟨b, j, none⟩ = some (.int .u8 ((l.getD j 0).toNat : Int)) := by
  rw [cell_of_row _ _ _ _ _ _ h.blk, pcells, List.getElem?_toArray, List.getElem?_append_left (by rw [cellsU_len, h.len]; exact hj), cellsU_get l j (by rw [h.len]; exact hj)]
theorem Pg.perm {T : TypeId} {w : World} {b : Nat} {l : List UInt8} {perm n : Int} (h : Pg T w b l perm n) : w.cell? ⟨b, 256, none⟩ = some (.int .i64 perm) := by
  rw [cell_of_row _ _ _ _ _ _ h.blk, pcells, List.getElem?_toArray, List.getElem?_append_right (by rw [cellsU_len, h.len]; omega), cellsU_len, h.len]
  rfl
theorem Pg.count {T : TypeId} {w : World} {b : Nat} {l : List UInt8} {perm n : Int} (h : Pg T w b l perm n) : w.cell? ⟨b, 257, none⟩ = some (.int .i64 n) := by
  rw [cell_of_row _ _ _ _ _ _ h.blk, pcells, List.getElem?_toArray, List.getElem?_append_right (by rw [cellsU_len, h.len]; omega), cellsU_len, h.len]
  rfl
theorem Pg.thaw {T : TypeId} {w : World} {b : Nat} {l : List UInt8} {perm n : Int} (h : Pg T w b l perm n) (j : Nat) : w.frozen? ⟨b, j, none⟩ = false := frozen_of_row _ _ _ _ _ h.blk
theorem Pg.setByte {T : TypeId} {w : World} {b : Nat} {l : List UInt8} {perm n : Int} (h : Pg T w b l perm n) {j : Nat} (hj : j < 256) (v : UInt8) : Pg T (w.setCell ⟨b, j, none⟩ (.int .u8 (v.toNat : Int))) b (l.set j v) perm n := by
  refine ⟨by simpa using h.len, ?_⟩
  rw [heap_setCell_same _ _ _ _ _ _ h.blk, pcells, pcells, cellsU_set, List.setIfInBounds_toArray, List.set_append_left _ _ (by rw [cellsU_len, h.len]; exact hj)]
theorem Pg.setPerm {T : TypeId} {w : World} {b : Nat} {l : List UInt8} {perm n : Int} (h : Pg T w b l perm n) (p : Int) : Pg T (w.setCell ⟨b, 256, none⟩ (.int .i64 p)) b l p n := by
  refine ⟨h.len, ?_⟩
  rw [heap_setCell_same _ _ _ _ _ _ h.blk, pcells, pcells, List.setIfInBounds_toArray, List.set_append_right _ _ (by rw [cellsU_len, h.len]; omega), cellsU_len, h.len]
  rfl
theorem Pg.setCount {T : TypeId} {w : World} {b : Nat} {l : List UInt8} {perm n : Int} (h : Pg T w b l perm n) (p : Int) : Pg T (w.setCell ⟨b, 257, none⟩ (.int .i64 p)) b l perm p := by
  refine ⟨h.len, ?_⟩
  rw [heap_setCell_same _ _ _ _ _ _ h.blk, pcells, pcells, List.setIfInBounds_toArray, List.set_append_right _ _ (by rw [cellsU_len, h.len]; omega), cellsU_len, h.len]
  rfl
theorem Pg.same {T : TypeId} {w w' : World} {b : Nat} {l : List UInt8} {perm n : Int} (h : Pg T w b l perm n) (hb : w'.heap[b]? = w.heap[b]?) : Pg T w' b l perm n := ⟨h.len, hb.trans h.blk⟩
theorem Pg.later {T : TypeId} {w w' : World} {b : Nat} {l : List UInt8} {perm n : Int} (h : Pg T w b l perm n) (hb : Below w.heap.size w w') : Pg T w' b l perm n := h.same (hb.block b h.lt)
/-- A block alone has turned. -/
structure Only (b : Nat) (w w' : World) : Prop where
  os : w'.os = w.os
  tape : w'.tape = w.tape
  output : w'.output = w.output
  size : w'.heap.size = w.heap.size
  block : ∀ k, k ≠ b → w'.heap[k]? = w.heap[k]?
theorem Only.refl (b : Nat) (w : World) : Only b w w := ⟨rfl, rfl, rfl, rfl, fun _ _ => rfl⟩
theorem Only.trans {b : Nat} {u v w : World} (h : Only b u v) (k : Only b v w) : Only b u w :=
  ⟨k.os.trans h.os, k.tape.trans h.tape, k.output.trans h.output, k.size.trans h.size, fun i hi => (k.block i hi).trans (h.block i hi)⟩
theorem Only.setCell {b : Nat} {u w : World} (h : Only b u w) (j : Nat) (v : Value) : Only b u (w.setCell ⟨b, j, none⟩ v) :=
  h.trans ⟨rfl, rfl, rfl, by simp [World.setCell], fun k hk => Below.heap_setCell _ _ _ _ hk⟩
theorem Only.drew {b : Nat} {u w : World} (h : Only b u w) : Only b u w.drew := ⟨h.os, h.tape, h.output, h.size, h.block⟩
theorem Only.below {b B : Nat} {u w : World} (h : Only b u w) (hB : B ≤ b) : Below B u w :=
  ⟨h.os, h.tape, h.output, Nat.le_of_eq h.size.symm, fun k hk => h.block k (by omega)⟩
theorem Pg.only {T : TypeId} {w w' : World} {b c : Nat} {l : List UInt8} {perm n : Int} (h : Pg T w b l perm n) (hb : Only c w w') (hne : b ≠ c) : Pg T w' b l perm n := h.same (hb.block b hne)
theorem pg_new (T : TypeId) (w : World) (l : List UInt8) (perm n : Int) (h : l.length = 256) : Pg T (w.alloc (.cells (pcells l perm n) T)) w.heap.size l perm n := ⟨h, heap_alloc_new w _⟩
theorem zeros_len : zeros.length = 256 := List.length_replicate
/-- What stands at a place, and behind a store there. -/
abbrev inB (i : Int) : Prop := 0 ≤ i ∧ i < 256
def getB (l : List UInt8) (i : Int) : UInt8 := if inB i then l.getD i.toNat 0 else 0
def setB (l : List UInt8) (i : Int) (v : UInt8) : List UInt8 := if inB i then l.set i.toNat v else l
def cntB (n i : Int) : Int := if inB i then n + 1 else n
def partB (l : List UInt8) (i n : Int) : List UInt8 := (l.drop i.toNat).take n.toNat
theorem setB_len (l : List UInt8) (i : Int) (v : UInt8) : (setB l i v).length = l.length := by unfold setB; split <;> simp
theorem and7 (n : Int) : bits .and .i64 n 7 = n % 8 := by
  have h7 : (BitVec.ofInt 64 7).toNat = 2 ^ 3 - 1 := by decide
  have key : (BitVec.ofInt 64 n &&& BitVec.ofInt 64 7).toNat = (n % ((2 ^ 64 : Nat) : Int)).toNat % 2 ^ 3 := by
    rw [BitVec.toNat_and, BitVec.toNat_ofInt, h7, Nat.and_two_pow_sub_one_eq_mod]
  show IntKind.i64.wrap ((BitVec.ofInt 64 n &&& BitVec.ofInt 64 7).toNat : Nat) = n % 8
  rw [key, IntKind.wrap_i64]
  omega
end Go.Proofs.Ytodoenimlhldjaa
namespace Go.Proofs.Ytodoenimlhldjaa
open Go.ChangeShapes Go.WideShapes Go.ChangeAt Go.RowKit
set_option linter.unusedVariables false
theorem build51 (x : Int) (w : World) : (Instr.build 127 #[(1, .int .i64 x)]).run Try.prog w = .ok (.agg (pcells zeros x 0)) w := by kernel_rfl
theorem wpList_build {P : Program} {w : World} {ops : Array Oper} {rest : List Oper} {o : Oper} {a : Act} {Q : Exit → Act → World → Prop} (hgd : o.guard = none) (t : TypeId) (parts : Array (Nat × Operand))
    (ho : o.op = .build t parts) {ps : Array (Nat × Value)} {v : Value} (hp : (parts.map fun (i, x) => (i, a.eval x)) = ps)
    (hr : (Instr.build t ps).run P w = .ok v w) (h : wpList P ops Q rest (a.put o.dst v) w) : wpList P ops Q (o :: rest) a w :=
  wpList_plain hgd fun _ hK => by
    unfold Oper.wp execOp
    simp only [ho, hp, Sem.run_bind, Sem.run_pure, Result.andThen_ok, hr]
    exact hK _ _ h
theorem there_yes (i : Int) (w : World) (h0 : 0 ≤ i) (h1 : i < 256) : Calls Try.prog 77 #[.int .i64 i] w fun e w' => e = .returned (.bool true) ∧ w' = w := by
  go_enter Try.func77, Try.ntmps77
  go_wp2
  go_ret
  exact ⟨rfl, rfl⟩
theorem there_no (i : Int) (w : World) (h : ¬ (0 ≤ i ∧ i < 256)) : Calls Try.prog 77 #[.int .i64 i] w fun e w' => e = .returned (.bool false) ∧ w' = w := by
  by_cases h0 : 0 ≤ i
  · have h1 : ¬ i < 256 := by omega
    clear h
    go_enter Try.func77, Try.ntmps77
    go_wp2
    go_ret
    exact ⟨rfl, rfl⟩
  · clear h
    have h0' : decide (0 ≤ i) = false := by simpa using h0
    go_enter Try.func77, Try.ntmps77
    go_wp2
    go_ret
    exact ⟨rfl, rfl⟩
set_option maxRecDepth 20000 in
theorem new_any (p : Int) (w : World) : Calls Try.prog 58 #[.int .i64 p] w fun e w' => e = .returned (.pointer (some ⟨w.heap.size, 0, none⟩)) ∧ w' = w.alloc (.cells (pcells zeros (p % 8) 0) 127) := by
  have ha := and7
  go_enter Try.func58, Try.ntmps58
  go_wp2_with (refine wpList_build rfl 127 _ rfl (ps := #[(1, .int .i64 (p % 8))]) ?_ (build51 _ _) ?_; simp [Act.eval])
  go_ret
  exact ⟨rfl, rfl⟩
theorem perm_any (w : World) (b : Nat) (l : List UInt8) (p n : Int) (h : Pg 127 w b l p n) : Calls Try.prog 54 #[.pointer (some ⟨b, 0, none⟩)] w fun e w' => e = .returned (.int .i64 p) ∧ w' = w := by
  have hc := h.perm
  go_enter Try.func54, Try.ntmps54
  go_wp2
  go_ret
  exact ⟨rfl, rfl⟩
theorem setPerm_any (w : World) (b : Nat) (l : List UInt8) (p n q : Int) (h : Pg 127 w b l p n) : Calls Try.prog 55 #[.pointer (some ⟨b, 0, none⟩), .int .i64 q] w fun e w' => e = .returned (.tuple #[]) ∧ w' = w.setCell ⟨b, 256, none⟩ (.int .i64 (q % 8)) := by
  have hc := h.perm
  have hz := h.thaw 256
  have ha := and7
  go_enter Try.func55, Try.ntmps55
  go_wp2
  go_end0
  exact ⟨rfl, rfl⟩
theorem load_any (w : World) (b : Nat) (n : Int) (hc : w.cell? ⟨b, 257, none⟩ = some (.int .i64 n)) : Calls Try.prog 56 #[.pointer (some ⟨b, 257, none⟩)] w fun e w' => e = .returned (.int .i64 n) ∧ w' = w := by
  have hl := run_call_load (P := Try.prog) Try.func75 (by kernel_rfl) (by kernel_rfl) (by kernel_rfl) .i64 (by kernel_rfl) hc
  go_enter Try.func56, Try.ntmps56
  go_wp2
  go_ret
  exact ⟨rfl, rfl⟩
theorem add_any (w : World) (b : Nat) (n : Int) (h0 : 0 ≤ n) (h1 : n < 9223372036854775807) (hc : w.cell? ⟨b, 257, none⟩ = some (.int .i64 n)) (hz : w.frozen? ⟨b, 257, none⟩ = false) : Calls Try.prog 76 #[.pointer (some ⟨b, 257, none⟩), .int .i64 1] w fun e w' => e = .returned (.int .i64 (n + 1)) ∧ w' = w.setCell ⟨b, 257, none⟩ (.int .i64 (n + 1)) := by
  have hl := run_call_add (P := Try.prog) Try.func84 (by kernel_rfl) (by kernel_rfl) (by kernel_rfl) .i64 (by kernel_rfl) (y := 1) (s := n + 1) hc hz (by simp [go_sem, IntKind.wrap_i64]; omega)
  go_enter Try.func76, Try.ntmps76
  go_wp2
  go_ret
  exact ⟨rfl, rfl⟩
end Go.Proofs.Ytodoenimlhldjaa
namespace Go.Proofs.Ytodoenimlhldjaa
open Go.ChangeShapes Go.WideShapes Go.ChangeAt Go.RowKit
set_option linter.unusedVariables false
theorem byte_any (w : World) (b : Nat) (l : List UInt8) (p n i : Int) (h : Pg 127 w b l p n) : Calls Try.prog 70 #[.pointer (some ⟨b, 0, none⟩), .int .i64 i] w fun e w' => e = .returned (.int .u8 ((getB l i).toNat : Int)) ∧ w' = w := by
  by_cases hi : inB i
  · have hg : getB l i = l.getD i.toNat 0 := by unfold getB; rw [if_pos hi]
    rw [hg]
    obtain ⟨h0, h1⟩ := hi
    have hc := h.byte (j := i.toNat) (by omega)
    clear h hg
    generalize l.getD i.toNat 0 = v at hc
    go_enter Try.func70, Try.ntmps70
    go_wp2_with (go_at_call 77; refine (there_yes _ _ h0 h1).mono ?_; rintro e w1 ⟨rfl, hww⟩; rw [hww]; clear hww w1)
    go_ret
    exact ⟨rfl, rfl⟩
  · have hg : getB l i = 0 := by unfold getB; rw [if_neg hi]
    rw [hg]
    have H := hidden (there_no i w hi)
    clear h hg hi
    go_enter Try.func70, Try.ntmps70
    go_wp2_with (go_at_call 77; refine (Hid.out H).mono ?_; rintro e w1 ⟨rfl, hww⟩; rw [hww]; clear hww w1)
    go_ret
    exact ⟨rfl, rfl⟩
theorem setByte_any (w : World) (b : Nat) (l : List UInt8) (p n i : Int) (v : UInt8) (hn0 : 0 ≤ n) (hn1 : n < 9223372036854775807) (h : Pg 127 w b l p n) :
    Calls Try.prog 59 #[.pointer (some ⟨b, 0, none⟩), .int .i64 i, .int .u8 (v.toNat : Int)] w fun e w' => e = .returned (.tuple #[]) ∧ Pg 127 w' b (setB l i v) p (cntB n i) ∧ Only b w w' := by
  by_cases hi : inB i
  · have hg : setB l i v = l.set i.toNat v := by unfold setB; rw [if_pos hi]
    have hn : cntB n i = n + 1 := by unfold cntB; rw [if_pos hi]
    rw [hg, hn]
    obtain ⟨h0, h1⟩ := hi
    have hc := h.byte (j := i.toNat) (by omega)
    have hz := h.thaw i.toNat
    have h2 := h.setByte (j := i.toNat) (by omega) v
    have H3 := hidden (h2.setCount (n + 1))
    have H2 := hidden (add_any _ b n hn0 hn1 h2.count (h2.thaw 257))
    clear h hg hn h2
    generalize l.getD i.toNat 0 = v0 at hc
    go_enter Try.func59, Try.ntmps59
    go_wp2_with (first | (go_at_call 77; refine (there_yes _ _ h0 h1).mono ?_; rintro e w1 ⟨rfl, hww⟩; rw [hww]; clear hww w1) | (go_at_call 76; refine (Hid.out H2).mono ?_; rintro e w1 ⟨rfl, hww⟩; rw [hww]; clear hww w1))
    go_end0
    exact ⟨rfl, Hid.out H3, ((Only.refl b w).setCell _ _).setCell _ _⟩
  · have hg : setB l i v = l := by unfold setB; rw [if_neg hi]
    have hn : cntB n i = n := by unfold cntB; rw [if_neg hi]
    rw [hg, hn]
    have H := hidden (there_no i w hi)
    have H3 := hidden h
    clear h hg hi hn
    go_enter Try.func59, Try.ntmps59
    go_wp2_with (go_at_call 77; refine (Hid.out H).mono ?_; rintro e w1 ⟨rfl, hww⟩; rw [hww]; clear hww w1)
    first | go_end0 | refine bodyPost_ret (results_none rfl _ _ _) rfl ?_
    exact ⟨rfl, Hid.out H3, Only.refl b w⟩
/-- Place: what is left, from 0 on. -/
theorem place_any (v : Int) (m : Int) (hm : 0 < m) (hm2 : m < 4611686018427387904) (w : World) : Calls Try.prog 23 #[.int .i64 v, .int .i64 m] w fun e w' => e = .returned (.int .i64 (v % m)) ∧ w' = w := by
  have hne : ¬ m = 0 := by omega
  have h1 := Int.emod_nonneg v hne
  have h2 := Int.emod_lt_of_pos v hm
  have h3 := @Int.tmod_eq_emod v m
  have h4 : (m.natAbs : Int) = m := by omega
  have hb1 : v.tmod m < m := by rw [h3]; split <;> omega
  have hb2 : -m ≤ v.tmod m := by rw [h3]; split <;> omega
  have he : v % m = if v.tmod m < 0 then v.tmod m + m else v.tmod m := by
    rw [h3]
    split <;> (split <;> omega)
  clear h1 h2 h3 h4
  rw [he]
  clear he
  by_cases h0 : v.tmod m < 0
  · rw [if_pos h0]
    go_enter Try.func23, Try.ntmps23
    go_wp2
    go_ret
    exact ⟨rfl, rfl⟩
  · rw [if_neg h0]
    go_enter Try.func23, Try.ntmps23
    go_wp2
    go_ret
    exact ⟨rfl, rfl⟩
end Go.Proofs.Ytodoenimlhldjaa
namespace Go.Proofs.Ytodoenimlhldjaa
open Go.ChangeShapes Go.WideShapes Go.ChangeAt Go.RowKit
set_option linter.unusedVariables false
theorem size31 : (Try.prog.info? 114).map (·.size) = some 256 := by kernel_rfl
/-- A page's bytes, read as a value. -/
theorem run_load31 {T : TypeId} {w : World} {b : Nat} {l : List UInt8} {p n : Int} (h : Pg T w b l p n) : (loadVar 114 ⟨b, 0, none⟩).run Try.prog w = .ok (.agg (cellsU l).toArray) w := by
  have hl : (loadCells ⟨b, 0, none⟩ (cellsU l).length).run Try.prog w = .ok (cellsU l).toArray w :=
    run_loadCells_list (P := Try.prog) w ⟨b, 0, none⟩ (cellsU l) (fun j v hv => by
      have hj : j < 256 := by
        have := (List.getElem?_eq_some_iff.1 hv).1
        rw [cellsU_len, h.len] at this
        exact this
      have hadd : (⟨b, 0, none⟩ : Addr).add j = ⟨b, j, none⟩ := by unfold Addr.add; split <;> simp_all
      rw [cellsU_get l j (by rw [h.len]; exact hj)] at hv
      rw [hadd, h.byte hj]
      exact hv)
  rw [cellsU_len, h.len] at hl
  cases hq : Try.prog.info? 114 with
  | none => have := size31; simp [hq] at this
  | some i =>
    have hs : i.size = 256 := by have := size31; simpa [hq] using this
    have hagg : (isAgg 114).run Try.prog w = .ok true w := by
      unfold isAgg
      rw [Sem.run_bind, run_underlying Try.underlying114 w]
      rfl
    simp [loadVar, Sem.run_bind, hagg, sizeOf, typeInfo, hq, hs, hl]
theorem fold_set (k : Nat) : ∀ (xs : List Value) (pre mid post : List Value), pre.length = k → mid.length = xs.length →
    ((xs.zipIdx k).foldl (fun cs (c, j) => Array.setIfInBounds cs (0 + j) c) (pre ++ mid ++ post).toArray) = (pre ++ xs ++ post).toArray := by
  intro xs
  induction xs generalizing k with
  | nil => intro pre mid post h1 h2; simp at h2; subst h2; simp
  | cons x xs ih =>
    intro pre mid post h1 h2
    cases mid with
    | nil => simp at h2
    | cons m mid =>
      simp only [List.zipIdx_cons, List.foldl_cons]
      have e : (pre ++ (m :: mid) ++ post).toArray.setIfInBounds (0 + k) x = ((pre ++ [x]) ++ mid ++ post).toArray := by
        subst h1
        rw [Nat.zero_add, List.setIfInBounds_toArray, List.append_assoc, List.set_append_right _ _ (Nat.le_refl _)]
        simp
      rw [e, ih (k + 1) (pre ++ [x]) mid post (by simp [h1]) (by simpa using h2)]
      simp
theorem pcells_size (l : List UInt8) (h : l.length = 256) (p n : Int) : (pcells l p n).size = 258 := by
  rw [pcells, List.size_toArray, List.length_append, cellsU_len, h]
  rfl
theorem fill51 (l : List UInt8) (h : l.length = 256) (p : Int) : Instr.fill (#[(0, 256), (256, 1), (257, 1)][·]?) (pcells zeros 0 0) [(0, .agg (cellsU l).toArray), (1, .int .i64 p)] = some (pcells l p 0) := by
  have hc : (Value.agg (cellsU l).toArray).cells = (cellsU l).toArray := rfl
  have hs : (cellsU l).toArray.size = 256 := by rw [List.size_toArray, cellsU_len, h]
  have hz := pcells_size zeros zeros_len 0 0
  have hp : (#[(0, 256), (256, 1), (257, 1)] : Array (Nat × Nat))[0]? = some (0, 256) := rfl
  have hp1 : (#[(0, 256), (256, 1), (257, 1)] : Array (Nat × Nat))[1]? = some (256, 1) := rfl
  have hf : (cellsU l).toArray.zipIdx.foldl (fun cs (c, j) => cs.setIfInBounds (0 + j) c) (pcells zeros 0 0) = pcells l 0 0 := by
    have e := fold_set 0 (cellsU l) [] (cellsU zeros) [Value.int .i64 0, Value.int .i64 0] rfl (by rw [cellsU_len, cellsU_len, h, zeros_len])
    rw [List.nil_append, List.nil_append] at e
    rw [Array.zipIdx_toArray, List.foldl_toArray]
    exact e
  rw [Instr.fill, hp]
  simp only [hc, hs, hz, hf]
  rw [if_neg (by decide), Instr.fill, hp1]
  have hz2 := pcells_size l h 0 0
  have hs2 : (Value.int .i64 p).cells.size = 1 := rfl
  simp only [hs2, hz2]
  rw [if_neg (by decide), Instr.fill]
  congr 1
  show (pcells l 0 0).setIfInBounds (256 + 0) (.int .i64 p) = pcells l p 0
  rw [pcells, pcells, List.setIfInBounds_toArray, List.set_append_right _ _ (by rw [cellsU_len, h]; omega), cellsU_len, h]
  rfl
theorem build51_run (parts : Array (Nat × Value)) (cells : Array Value) (w : World) (h : Instr.fill (#[(0, 256), (256, 1), (257, 1)][·]?) (pcells zeros 0 0) parts.toList = some cells) : (Instr.build 127 parts).run Try.prog w = .ok (.agg cells) w := by
  have hz : (zeroValue 127).run Try.prog w = .ok (.agg (pcells zeros 0 0)) w := by kernel_rfl
  unfold Instr.build
  simp only [Sem.run_bind, hz, Result.andThen_ok, run_underlying Try.underlying127]
  refine (congrArg (fun r => Result.andThen r _) (?hm : _ = Result.ok (#[(0, 256), (256, 1), (257, 1)] : Array (Nat × Nat)) w)).trans ?_
  case hm => kernel_rfl
  have hc : (Value.agg (pcells zeros 0 0)).cells = pcells zeros 0 0 := rfl
  simp only [Result.andThen_ok]
  rw [hc, h]
  rfl
theorem build51_copy (l : List UInt8) (h : l.length = 256) (p : Int) (w : World) : (Instr.build 127 #[(0, .agg (cellsU l).toArray), (1, .int .i64 p)]).run Try.prog w = .ok (.agg (pcells l p 0)) w :=
  build51_run _ _ w (fill51 l h p)
end Go.Proofs.Ytodoenimlhldjaa
