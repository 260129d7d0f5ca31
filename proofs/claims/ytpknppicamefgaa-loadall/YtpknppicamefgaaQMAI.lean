/- Bytes in memory: that they lie where a slice begins, what stays of that, what append makes of them, and as texts. -/
import Derived.Test.YtpknppicamefgaaQMAH
import Derived.WalkKit
import Derived.ProofKit
import Derived.OpenShut
import Derived.Handy
import Derived.Laws.BitsAllLaws
import Derived.Laws.ShiftsVarLaws
import Derived.Laws.IdiomStrings
namespace Go.Proofs.Ytpknppicamefgaa
open Go.ChangeShapes Go.WideShapes Go.ChangeAt Go.RowKit
set_option linter.unusedVariables false
/-- One byte put behind a row of the call's own: the byte lies in a block of its own first. -/
theorem wpList_push {ops : Array Oper} {rest : List Oper} {o : Oper} {a : Act} {Q : Exit → Act → World → Prop} {w : World} {x : Value} (hgd : o.guard = none) (s y : Operand)
    (ho : o.op = .call { callee := .builtin .append, args := #[s, y], argTypes := #[51, 51] }) (base : Nat) (v : Value) (l : List UInt8) (z : UInt8) (hs : a.eval s = v) (hy : a.eval y = .slice (some ⟨w.heap.size, 0, none⟩) 1 1)
    (hown : w.ownsRow base 5 1 v l.length (cellsU l)) (hx : x = .int .u8 (z.toNat : Int)) (hl : l.length < 1000) (hbase : base ≤ w.heap.size)
    (h : ∀ v' w', w'.ownsRow base 5 1 v' (l ++ [z]).length (cellsU (l ++ [z])) → Below base w w' → wpList Try.prog ops Q rest (a.put o.dst v') w') : wpList Try.prog ops Q (o :: rest) a (w.alloc (.cells #[x] 5)) := by
  obtain ⟨i0, hi, hz0, hz1, hz2⟩ := info_parts info5
  subst hx
  refine wpList_append_own _ hgd s y 51 ho base 5 i0 (.int .u8 0) 1 1 Try.underlying51 hi hz0 hz1 hz2 rfl (by decide) v l.length (cellsU l) hs (hown.alloc _) ⟨w.heap.size, 0, none⟩ 1 1 (cellsU [z]) hy rfl ?_ (cellsU_one _) (by simp [maxLen]; omega) (by omega) (by simp; omega) ?_
  · refine Lies.cells (fun j hj => ?_)
    have : j = 0 := by simp at hj; omega
    subst this
    rw [cell_of_row _ _ _ _ _ _ (heap_alloc_new w _)]
    rfl
  · intro v' w' hown' hgrow _
    rw [← cellsU_append] at hown'
    refine h v' w' (by simpa using hown') ?_
    refine ((Below.refl base w).alloc hbase _).grown hgrow (by simp; omega) ?_
    intro k hk
    exact (hown.lt k hk).1
/-- Bytes put behind bytes whose room is cut off: nothing that was there is written. -/
theorem run_behind (w : World) (ao bo : Option Addr) (c : Nat) (l m : List UInt8) (hl : Row w ao l l.length) (hm : Lies w bo m) (hsum : l.length + m.length ≤ 140737488355328) :
    ∃ ao' cap' w', (Builtin.append_ #[51, 51] 51 #[.slice ao l.length l.length, .slice bo m.length c]).run Try.prog w = .ok (.slice ao' (l.length + m.length) cap') w' ∧ Row w' ao' (l ++ m) cap' ∧ Below w.heap.size w w' := by
  obtain ⟨i0, hi, hz0, hz1, hz2⟩ := info_parts info5
  by_cases hm0 : m = []
  · subst hm0
    refine ⟨ao, l.length, w, ?_, by simpa using hl, Below.refl _ _⟩
    cases ao with
    | none =>
      have h0 := hl.nil rfl
      cases bo <;> simp [Builtin.append_, run_underlying Try.underlying51, sizeOf, typeInfo, hi, Builtin.lenOf, Builtin.firstCells, loadCells, loadCellsFrom, h0]
    | some a =>
      cases bo <;> simp [Builtin.append_, run_underlying Try.underlying51, sizeOf, typeInfo, hi, Builtin.lenOf, Builtin.firstCells, loadCells, loadCellsFrom, storeCells]
  · obtain ⟨b2, off2, rfl, hc2⟩ : ∃ b off, bo = some ⟨b, off, none⟩ ∧ ∀ j, j < m.length → w.cell? ⟨b, off + j, none⟩ = some (.int .u8 ((m.getD j 0).toNat : Int)) := by
      rcases hm with h | h
      · exact absurd h hm0
      · exact h
    have hpos : 0 < m.length := by cases m <;> simp_all
    have hrow : ∀ (C : Nat), l.length + m.length ≤ C → C ≤ maxLen → ∀ zs : Array Value, Row (w.drew.alloc (.cells ((cellsU l ++ cellsU m).toArray ++ zs) 5)) (some ⟨w.heap.size, 0, none⟩) (l ++ m) C := by
      intro C h1 h2 zs
      refine ⟨by simpa using h1, h2, by simp, .inr ⟨w.heap.size, 0, rfl, fun j hj => ?_⟩⟩
      refine (World.cell?_alloc_mark w.drew _ 5 (0, 0) (0 + j)).trans ?_
      rw [Nat.zero_add, ← cellsU_append, Array.getElem?_append_left (by rw [List.size_toArray, cellsU_len]; exact hj), List.getElem?_toArray]
      exact cellsU_get _ _ hj
    have hbel : ∀ o, Below w.heap.size w (w.drew.alloc o) := fun o => (Below.refl _ _).drew.alloc (by simp) o
    cases ao with
    | none =>
      have h0 := hl.nil rfl
      have hl0 : l = [] := List.eq_nil_of_length_eq_zero h0
      subst hl0
      have hr := run_append_nil (P := Try.prog) w 51 51 5 i0 (.int .u8 0) Try.underlying51 hi hz0 ⟨b2, off2, none⟩ m.length c (cellsU m) (by rw [cellsU_len, hz1, Nat.mul_one]) (Lies.cells hc2) hpos (by omega) (by rw [hz2]; omega)
      refine ⟨_, _, _, by simpa using hr, ?_, hbel _⟩
      have := hrow (grownCap w m.length 0 5) (by simpa using grownCap_ge w m.length 0 5) (grownCap_le_maxLen w _ _ _ (by simp only [maxLen]; omega))
      simpa [cellsU] using this _
    | some a =>
      have holds : ∀ j u, (cellsU l)[j]? = some u → w.cell? (a.add j) = some u := by
        rcases hl.lies with rfl | ⟨b, off, ha, hc⟩
        · intro j u hu; simp [cellsU] at hu
        · cases ha; exact Lies.cells hc
      have hr := run_append_grow (P := Try.prog) w 51 51 5 i0 (.int .u8 0) Try.underlying51 hi hz0 a l.length l.length (cellsU l) (by rw [cellsU_len, hz1, Nat.mul_one]) holds ⟨b2, off2, none⟩ m.length c (cellsU m) (by rw [cellsU_len, hz1, Nat.mul_one]) (Lies.cells hc2) (by omega) (by omega) (growslice_fits (by omega) (by rw [hz2]; omega))
      refine ⟨_, _, _, hr, ?_, hbel _⟩
      have := hrow (grownCap w (l.length + m.length) l.length 5) (grownCap_ge w _ _ 5) (grownCap_le_maxLen w _ _ _ (by simp only [maxLen]; omega)) (Builtin.zeroCells (Value.int IntKind.u8 0).cells (grownCap w (l.length + m.length) l.length 5 - (l.length + m.length)))
      have e : (cellsU l ++ cellsU m).toArray = (cellsU l).toArray ++ (cellsU m).toArray := by simp
      rw [e] at this
      exact this
theorem wpList_append_run {P : Program} {w : World} {ops : Array Oper} {rest : List Oper} {o : Oper} {a : Act} {Q : Exit → Act → World → Prop} (hgd : o.guard = none) (s x : Operand) (t tx : TypeId)
    (ho : o.op = .call { callee := .builtin .append, args := #[s, x], argTypes := #[t, tx] }) {vs vx v' : Value} {w' : World} (hs : a.eval s = vs) (hx : a.eval x = vx)
    (hr : (Builtin.append_ #[t, tx] o.type #[vs, vx]).run P w = .ok v' w') (h : wpList P ops Q rest (a.put o.dst v') w') : wpList P ops Q (o :: rest) a w :=
  wpList_plain hgd fun _ hK => by
    unfold Oper.wp execOp
    simp only [ho, resolve, invoke, builtin, Sem.run_bind, Sem.run_pure, Result.andThen_ok, List.map_toArray, List.map_cons, List.map_nil, hs, hx, hr]
    exact hK _ _ h
theorem run_bytes (w : World) (t : List UInt8) : ∃ g c w2, (convert 9 51 (.string ⟨t.toArray⟩)).run Try.prog w = .ok (.slice (some ⟨g, 0, none⟩) t.length c) w2 ∧ Lies w2 (some ⟨g, 0, none⟩) t ∧ Below w.heap.size w w2 := by
  have h := run_bytes_of_string (P := Try.prog) w 9 51 5 ⟨t.toArray⟩ Try.underlying9 Try.underlying51 Try.underlying5
  refine ⟨_, _, _, h, .inr ⟨w.heap.size, 0, rfl, fun j hj => ?_⟩, (Below.refl _ _).drew.alloc (by simp) _⟩
  refine (World.cell?_alloc_mark w.drew _ 5 _ (0 + j)).trans ?_
  rw [Nat.zero_add]
  unfold bytesRow
  rw [Array.getElem?_append_left (by simpa using hj)]
  simp [List.getD_eq_getElem?_getD, List.getElem?_eq_getElem hj]
end Go.Proofs.Ytpknppicamefgaa
namespace Go.Proofs.Ytpknppicamefgaa
/-- A segment. -/
structure Sg where
  at_ : Nat
  data : List UInt8
  size : Nat
  perm : Int
def fitsB (s : Sg) : Bool := decide (s.size ≤ 16384) && decide (s.data.length ≤ s.size) && decide (s.at_ + s.size ≤ 2147483648)
def okB (s : Sg) : Bool := decide (s.size ≠ 0) && fitsB s && decide (0 ≤ s.perm) && decide (s.perm ≤ 7)
def lastPg (s : Sg) : Nat := (s.at_ + s.size - 1) / 256
def shareB (s o : Sg) : Bool := decide (s.at_ / 256 ≤ lastPg o) && decide (o.at_ / 256 ≤ lastPg s)
def nosg : Sg := ⟨0, [], 0, 0⟩
def overB (l : List Sg) : Bool := (List.range l.length).any fun a => (List.range a).any fun b => shareB (l.getD a nosg) (l.getD b nosg)
def runsB (e : Nat) (s : Sg) : Bool := decide (s.perm % 2 = 1) && decide (s.at_ ≤ e) && decide (e < s.at_ + s.size)
def enterB (e : Nat) (l : List Sg) : Bool := decide (e % 4 = 0) && l.any (runsB e)
/-- Check: the error's number. -/
def checkE (e : Nat) (l : List Sg) : Nat :=
  if 8 < l.length then 2 else if l.all okB = false then 10 else if overB l = true then 11 else if enterB e l = false then 12 else 0
theorem over_yes {l : List Sg} {a b : Nat} (h1 : b < a) (h2 : a < l.length) (h : shareB (l.getD a nosg) (l.getD b nosg) = true) : overB l = true := by
  unfold overB
  rw [List.any_eq_true]
  refine ⟨a, by simpa using h2, ?_⟩
  rw [List.any_eq_true]
  exact ⟨b, by simpa using h1, h⟩
theorem over_no {l : List Sg} (h : ∀ a b, b < a → a < l.length → shareB (l.getD a nosg) (l.getD b nosg) = false) : overB l = false := by
  unfold overB
  rw [List.any_eq_false]
  intro a ha
  rw [Bool.not_eq_true, List.any_eq_false]
  intro b hb
  rw [Bool.not_eq_true]
  exact h a b (by simpa using hb) (by simpa using ha)
theorem all_yes {l : List Sg} {p : Sg → Bool} (h : ∀ j, j < l.length → p (l.getD j nosg) = true) : l.all p = true := by
  rw [List.all_eq_true]
  intro s hs
  obtain ⟨j, hj, rfl⟩ := List.getElem_of_mem hs
  have := h j hj
  rwa [List.getD_eq_getElem?_getD, List.getElem?_eq_getElem hj, Option.getD_some] at this
theorem all_no {l : List Sg} {p : Sg → Bool} {j : Nat} (hj : j < l.length) (h : p (l.getD j nosg) = false) : l.all p = false := by
  rw [List.all_eq_false]
  refine ⟨l[j], List.getElem_mem hj, ?_⟩
  rw [List.getD_eq_getElem?_getD, List.getElem?_eq_getElem hj, Option.getD_some] at h
  simp [h]
theorem any_yes {l : List Sg} {p : Sg → Bool} {j : Nat} (hj : j < l.length) (h : p (l.getD j nosg) = true) : l.any p = true := by
  rw [List.any_eq_true]
  refine ⟨l[j], List.getElem_mem hj, ?_⟩
  rwa [List.getD_eq_getElem?_getD, List.getElem?_eq_getElem hj, Option.getD_some] at h
theorem any_no {l : List Sg} {p : Sg → Bool} (h : ∀ j, j < l.length → p (l.getD j nosg) = false) : l.any p = false := by
  rw [List.any_eq_false]
  intro s hs
  obtain ⟨j, hj, rfl⟩ := List.getElem_of_mem hs
  have := h j hj
  rw [List.getD_eq_getElem?_getD, List.getElem?_eq_getElem hj, Option.getD_some] at this
  simp [this]
theorem all_get {l : List Sg} {p : Sg → Bool} (h : l.all p = true) {j : Nat} (hj : j < l.length) : p (l.getD j nosg) = true := by
  rw [List.getD_eq_getElem?_getD, List.getElem?_eq_getElem hj, Option.getD_some]
  exact List.all_eq_true.1 h _ (List.getElem_mem hj)
theorem ok_size {s : Sg} (h : okB s = true) : 0 < s.size ∧ s.size ≤ 16384 ∧ s.data.length ≤ s.size ∧ s.at_ + s.size ≤ 2147483648 ∧ 0 ≤ s.perm ∧ s.perm ≤ 7 := by
  simp only [okB, fitsB, Bool.and_eq_true, decide_eq_true_eq] at h
  omega
/-- Numbers as bytes, the highest first. -/
def put16 (v : Nat) : List UInt8 := [UInt8.ofNat (v / 256 % 256), UInt8.ofNat (v % 256)]
def put32 (v : Nat) : List UInt8 := [UInt8.ofNat (v / 16777216 % 256), UInt8.ofNat (v / 65536 % 256), UInt8.ofNat (v / 256 % 256), UInt8.ofNat (v % 256)]
theorem put16_len (v : Nat) : (put16 v).length = 2 := rfl
theorem put32_len (v : Nat) : (put32 v).length = 4 := rfl
def magicB : List UInt8 := [127, 69, 76, 70]
def classB : List UInt8 := [1, 2, 1]
def padB : List UInt8 := [0, 0, 0, 0, 0, 0, 0, 0, 0]
def headB (e n : Nat) : List UInt8 :=
  magicB ++ classB ++ padB ++ (put16 2 ++ put16 8) ++ (put32 1 ++ put32 e ++ put32 52 ++ put32 0 ++ put32 0) ++ (put16 52 ++ put16 32 ++ put16 n ++ put16 0 ++ put16 0 ++ put16 0)
def rowB (from_ : Nat) (s : Sg) : List UInt8 :=
  put32 1 ++ put32 from_ ++ put32 s.at_ ++ put32 s.at_ ++ put32 s.data.length ++ put32 s.size ++ put32 s.perm.toNat ++ put32 4
theorem rowB_len (f : Nat) (s : Sg) : (rowB f s).length = 32 := rfl
theorem headB_len (e n : Nat) : (headB e n).length = 52 := rfl
def rowsB : Nat → List Sg → List UInt8
  | _, [] => []
  | f, s :: t => rowB f s ++ rowsB (f + s.data.length) t
theorem rowsB_len : ∀ (l : List Sg) (f : Nat), (rowsB f l).length = 32 * l.length
  | [], _ => rfl
  | s :: t, f => by
    have := rowsB_len t (f + s.data.length)
    simp only [rowsB, List.length_append, rowB_len, List.length_cons, this]
    omega
def datasB : List Sg → List UInt8
  | [] => []
  | s :: t => s.data ++ datasB t
theorem rowsB_snoc : ∀ (l : List Sg) (f : Nat) (s : Sg), rowsB f (l ++ [s]) = rowsB f l ++ rowB (f + (datasB l).length) s
  | [], f, s => by simp [rowsB, datasB]
  | x :: t, f, s => by
    simp only [List.cons_append, rowsB, rowsB_snoc t, datasB, List.length_append, List.append_assoc, Nat.add_assoc]
theorem datasB_snoc : ∀ (l : List Sg) (s : Sg), datasB (l ++ [s]) = datasB l ++ s.data
  | [], s => by simp [datasB]
  | x :: t, s => by simp only [List.cons_append, datasB, datasB_snoc t, List.append_assoc]
def tableB (e : Nat) (l : List Sg) : List UInt8 := headB e l.length ++ rowsB (52 + 32 * l.length) l
def fileB (e : Nat) (l : List Sg) : List UInt8 := tableB e l ++ datasB l
theorem tableB_len (e : Nat) (l : List Sg) : (tableB e l).length = 52 + 32 * l.length := by
  simp only [tableB, List.length_append, headB_len, rowsB_len]
theorem fileB_len (e : Nat) (l : List Sg) : (fileB e l).length = 52 + 32 * l.length + (datasB l).length := by
  simp only [fileB, List.length_append, tableB_len]
/-- Make: the bytes, the error's number. -/
def makeE (e : Nat) (l : List Sg) : List UInt8 × Nat :=
  if checkE e l ≠ 0 then ([], checkE e l) else if 16384 < (fileB e l).length then ([], 2) else (fileB e l, 0)
def bt (l : List UInt8) (k : Nat) : Nat := (l.getD k 0).toNat
def w16 (l : List UInt8) (k : Nat) : Nat := bt l k * 256 + bt l (k + 1)
def w32 (l : List UInt8) (k : Nat) : Nat := ((bt l k * 256 + bt l (k + 1)) * 256 + bt l (k + 2)) * 256 + bt l (k + 3)
theorem bt_lt (l : List UInt8) (k : Nat) : bt l k < 256 := UInt8.toNat_lt _
theorem w32_lt (l : List UInt8) (k : Nat) : w32 l k < 4294967296 := by
  have a := bt_lt l k
  have b := bt_lt l (k + 1)
  have c := bt_lt l (k + 2)
  have d := bt_lt l (k + 3)
  unfold w32
  omega
theorem w16_lt (l : List UInt8) (k : Nat) : w16 l k < 65536 := by
  have a := bt_lt l k
  have b := bt_lt l (k + 1)
  unfold w16
  omega
theorem w16_w32 (l : List UInt8) (k : Nat) : w32 l k / 65536 = w16 l k := by
  have a := bt_lt l k
  have b := bt_lt l (k + 1)
  have c := bt_lt l (k + 2)
  have d := bt_lt l (k + 3)
  unfold w32 w16
  omega
/-- What is wrong with a header and its table. -/
def headE (l : List UInt8) : Nat :=
  if 16384 < l.length then 2 else if l.length < 52 then 3 else if l.take 4 ≠ magicB then 6 else if (l.drop 4).take 3 ≠ classB then 7
  else if w16 l 16 ≠ 2 then 9 else if w16 l 18 ≠ 8 then 8 else if w32 l 20 ≠ 1 ∨ w16 l 40 < 52 then 9 else 0
def tableE (l : List UInt8) : Bool := decide (w16 l 44 ≤ 8) && (decide (w16 l 44 = 0) || (decide (w16 l 42 = 32) && decide (w32 l 28 + 32 * w16 l 44 ≤ l.length)))
/-- The segment of the row at p. -/
def segAt (l : List UInt8) (p : Nat) : Sg := ⟨w32 l (p + 8), (l.drop (w32 l (p + 4))).take (w32 l (p + 16)), w32 l (p + 20), ((w32 l (p + 24) % 8 : Nat) : Int)⟩
def segOk (l : List UInt8) (p : Nat) : Bool := decide (w32 l (p + 4) + w32 l (p + 16) ≤ l.length) && fitsB (segAt l p)
def segsE (l : List UInt8) : Nat → Nat → List Sg → Option (List Sg)
  | 0, _, acc => some acc
  | n + 1, p, acc => if w32 l p ≠ 1 then segsE l n (p + 32) acc else if segOk l p = false then none else if (segAt l p).size = 0 then segsE l n (p + 32) acc else segsE l n (p + 32) (acc ++ [segAt l p])
/-- Parse: the entry, the segments, the error's number. -/
def parseE (l : List UInt8) : Nat × List Sg × Nat :=
  if headE l ≠ 0 then (0, [], headE l) else if tableE l = false then (0, [], 9) else match segsE l (w16 l 44) (w32 l 28) [] with
    | none => (0, [], 10)
    | some segs => if checkE (w32 l 24) segs ≠ 0 then (0, [], checkE (w32 l 24) segs) else (w32 l 24, segs, 0)
theorem bt_behind (a b : List UInt8) (k : Nat) : bt (a ++ b) (a.length + k) = bt b k := by
  unfold bt
  rw [List.getD_eq_getElem?_getD, List.getElem?_append_right (by omega), Nat.add_sub_cancel_left, ← List.getD_eq_getElem?_getD]
theorem bt_ahead (a b : List UInt8) (k : Nat) (h : k < a.length) : bt (a ++ b) k = bt a k := by
  unfold bt
  rw [List.getD_eq_getElem?_getD, List.getElem?_append_left h, ← List.getD_eq_getElem?_getD]
theorem w32_behind (a b : List UInt8) (k : Nat) : w32 (a ++ b) (a.length + k) = w32 b k := by
  simp only [w32, Nat.add_assoc, bt_behind]
theorem w32_ahead (a b : List UInt8) (k : Nat) (h : k + 4 ≤ a.length) : w32 (a ++ b) k = w32 a k := by
  simp only [w32]
  rw [bt_ahead a b k (by omega), bt_ahead a b (k + 1) (by omega), bt_ahead a b (k + 2) (by omega), bt_ahead a b (k + 3) (by omega)]
theorem w16_ahead (a b : List UInt8) (k : Nat) (h : k + 2 ≤ a.length) : w16 (a ++ b) k = w16 a k := by
  simp only [w16]
  rw [bt_ahead a b k (by omega), bt_ahead a b (k + 1) (by omega)]
theorem byte_back {n : Nat} (h : n < 256) : (UInt8.ofNat n).toNat = n := by
  rw [UInt8.toNat_ofNat']
  omega
theorem four (v : Nat) (h : v < 4294967296) : (((UInt8.ofNat (v / 16777216 % 256)).toNat * 256 + (UInt8.ofNat (v / 65536 % 256)).toNat) * 256 + (UInt8.ofNat (v / 256 % 256)).toNat) * 256 + (UInt8.ofNat (v % 256)).toNat = v := by
  rw [byte_back (by omega), byte_back (by omega), byte_back (by omega), byte_back (by omega)]
  omega
theorem two (v : Nat) (h : v < 65536) : (UInt8.ofNat (v / 256 % 256)).toNat * 256 + (UInt8.ofNat (v % 256)).toNat = v := by
  rw [byte_back (by omega), byte_back (by omega)]
  omega
/-- A row is read as it was put. -/
theorem row_read (pre post : List UInt8) (f : Nat) (s : Sg) (hf : f < 4294967296) (ha : s.at_ < 4294967296) (hd : s.data.length < 4294967296) (hs : s.size < 4294967296) (hp : 0 ≤ s.perm ∧ s.perm ≤ 7) :
    w32 (pre ++ (rowB f s ++ post)) pre.length = 1 ∧ w32 (pre ++ (rowB f s ++ post)) (pre.length + 4) = f ∧ w32 (pre ++ (rowB f s ++ post)) (pre.length + 8) = s.at_ ∧ w32 (pre ++ (rowB f s ++ post)) (pre.length + 16) = s.data.length ∧ w32 (pre ++ (rowB f s ++ post)) (pre.length + 20) = s.size ∧ w32 (pre ++ (rowB f s ++ post)) (pre.length + 24) = s.perm.toNat := by
  have key : ∀ k, k + 4 ≤ 32 → w32 (pre ++ (rowB f s ++ post)) (pre.length + k) = w32 (rowB f s) k := fun k hk => by rw [w32_behind, w32_ahead _ _ _ (by rw [rowB_len]; exact hk)]
  have k0 := key 0 (by omega)
  rw [Nat.add_zero] at k0
  refine ⟨k0.trans (four 1 (by omega)), (key 4 (by omega)).trans ?_, (key 8 (by omega)).trans ?_, (key 16 (by omega)).trans ?_, (key 20 (by omega)).trans ?_, (key 24 (by omega)).trans ?_⟩
  · exact four f hf
  · exact four s.at_ ha
  · exact four s.data.length hd
  · exact four s.size hs
  · exact four s.perm.toNat (by omega)
theorem segs_back : ∀ (t : List Sg) (acc : List Sg) (pre mid : List UInt8) (f : Nat), t.all okB = true → (pre ++ (rowsB f t ++ mid)).length = f → f + (datasB t).length ≤ 16384 →
    segsE (pre ++ (rowsB f t ++ mid) ++ datasB t) t.length pre.length acc = some (acc ++ t)
  | [], acc, pre, mid, f, _, _, _ => by simp [segsE]
  | s :: t, acc, pre, mid, f, hok, hlen, hmax => by
    rw [List.all_cons, Bool.and_eq_true] at hok
    have hs := ok_size hok.1
    simp only [rowsB, datasB, List.length_append, List.length_cons] at hlen hmax ⊢
    have e0 : pre ++ (rowB f s ++ rowsB (f + s.data.length) t ++ mid) ++ (s.data ++ datasB t) = pre ++ (rowB f s ++ (rowsB (f + s.data.length) t ++ mid ++ (s.data ++ datasB t))) := by simp only [List.append_assoc]
    have hrow := row_read pre (rowsB (f + s.data.length) t ++ mid ++ (s.data ++ datasB t)) f s (by omega) (by omega) (by omega) (by omega) (by omega)
    rw [← e0] at hrow
    obtain ⟨r0, r4, r8, r16, r20, r24⟩ := hrow
    have hdl : (pre ++ (rowB f s ++ rowsB (f + s.data.length) t ++ mid)).length = f := by
      simp only [List.length_append, rowB_len] at hlen ⊢
      omega
    have hdata : ((pre ++ (rowB f s ++ rowsB (f + s.data.length) t ++ mid) ++ (s.data ++ datasB t)).drop f).take s.data.length = s.data := by
      rw [List.drop_append_of_le_length (by omega), List.drop_of_length_le (by omega), List.nil_append, List.take_append_of_le_length (by omega), List.take_length]
    have hseg : segAt (pre ++ (rowB f s ++ rowsB (f + s.data.length) t ++ mid) ++ (s.data ++ datasB t)) pre.length = s := by
      unfold segAt
      rw [r4, r8, r16, r20, r24, hdata]
      have : ((s.perm.toNat % 8 : Nat) : Int) = s.perm := by omega
      rw [this]
    have hfit : fitsB s = true := by
      have := hok.1
      simp only [okB, Bool.and_eq_true] at this
      exact this.1.1.2
    have hsok : segOk (pre ++ (rowB f s ++ rowsB (f + s.data.length) t ++ mid) ++ (s.data ++ datasB t)) pre.length = true := by
      unfold segOk
      rw [hseg, hfit, r4, r16, Bool.and_true, decide_eq_true_eq, List.length_append, hdl, List.length_append]
      omega
    rw [segsE, if_neg (by rw [r0]; simp), if_neg (by rw [hsok]; simp), if_neg (by rw [hseg]; omega), hseg]
    have ih := segs_back t (acc ++ [s]) (pre ++ rowB f s) (mid ++ s.data) (f + s.data.length) hok.2 (by
      simp only [List.length_append, rowB_len, rowsB_len] at hlen ⊢
      omega) (by omega)
    have e1 : pre ++ rowB f s ++ (rowsB (f + s.data.length) t ++ (mid ++ s.data)) ++ datasB t = pre ++ (rowB f s ++ rowsB (f + s.data.length) t ++ mid) ++ (s.data ++ datasB t) := by simp only [List.append_assoc]
    rw [e1, List.length_append, rowB_len, show acc ++ [s] ++ t = acc ++ s :: t by simp] at ih
    exact ih
theorem check_zero {e : Nat} {l : List Sg} (h : checkE e l = 0) : l.length ≤ 8 ∧ l.all okB = true ∧ overB l = false ∧ enterB e l = true := by
  unfold checkE at h
  by_cases a : 8 < l.length
  · rw [if_pos a] at h; simp at h
  · rw [if_neg a] at h
    by_cases b : l.all okB = false
    · rw [if_pos b] at h; simp at h
    · rw [if_neg b] at h
      by_cases c : overB l = true
      · rw [if_pos c] at h; simp at h
      · rw [if_neg c] at h
        by_cases d : enterB e l = false
        · rw [if_pos d] at h; simp at h
        · exact ⟨by omega, by simpa using b, by simpa using c, by simpa using d⟩
theorem head_read (e n : Nat) (post : List UInt8) (he : e < 4294967296) (hn : n ≤ 8) :
    (headB e n ++ post).take 4 = magicB ∧ ((headB e n ++ post).drop 4).take 3 = classB ∧ w16 (headB e n ++ post) 16 = 2 ∧ w16 (headB e n ++ post) 18 = 8 ∧ w32 (headB e n ++ post) 20 = 1 ∧ w32 (headB e n ++ post) 24 = e ∧ w32 (headB e n ++ post) 28 = 52 ∧ w16 (headB e n ++ post) 40 = 52 ∧ w16 (headB e n ++ post) 42 = 32 ∧ w16 (headB e n ++ post) 44 = n := by
  exact ⟨rfl, rfl, two 2 (by omega), two 8 (by omega), four 1 (by omega), four e he, four 52 (by omega), two 52 (by omega), two 32 (by omega), two n (by omega)⟩
/-- What is made is parsed as it was. -/
theorem parse_back {e : Nat} {l : List Sg} (he : e < 4294967296) (hc : checkE e l = 0) (hlen : (fileB e l).length ≤ 16384) : parseE (fileB e l) = (e, l, 0) := by
  obtain ⟨h8, hok, _, _⟩ := check_zero hc
  have hfl := fileB_len e l
  have hf : fileB e l = headB e l.length ++ (rowsB (52 + 32 * l.length) l ++ datasB l) := by simp only [fileB, tableB, List.append_assoc]
  obtain ⟨a1, a2, a3, a4, a5, a6, a7, a8, a9, a10⟩ := head_read e l.length (rowsB (52 + 32 * l.length) l ++ datasB l) he h8
  rw [← hf] at a1 a2 a3 a4 a5 a6 a7 a8 a9 a10
  have hh : headE (fileB e l) = 0 := by
    unfold headE
    rw [if_neg (by omega), if_neg (by omega), if_neg (by rw [a1]; simp), if_neg (by rw [a2]; simp), if_neg (by omega), if_neg (by omega), if_neg (by omega)]
  have ht : tableE (fileB e l) = true := by
    unfold tableE
    rw [a10, a9, a7, Bool.and_eq_true, Bool.or_eq_true, Bool.and_eq_true]
    refine ⟨by simpa using h8, .inr ⟨by simp, ?_⟩⟩
    rw [decide_eq_true_eq]
    omega
  have hs := segs_back l [] (headB e l.length) [] (52 + 32 * l.length) hok (by
    simp only [List.length_append, headB_len, rowsB_len, List.length_nil]
    omega) (by omega)
  have e1 : headB e l.length ++ (rowsB (52 + 32 * l.length) l ++ []) ++ datasB l = fileB e l := by simp only [fileB, tableB, List.append_nil]
  rw [e1, headB_len, List.nil_append] at hs
  unfold parseE
  rw [if_neg (by rw [hh]; simp), if_neg (by rw [ht]; simp), a10, a7, hs]
  simp only [a6]
  rw [if_neg (by rw [hc]; simp)]
end Go.Proofs.Ytpknppicamefgaa
namespace Go.Proofs.Ytpknppicamefgaa
open Go.ChangeShapes Go.WideShapes Go.ChangeAt Go.RowKit
set_option linter.unusedVariables false
section
variable {ρ : Operand → Value} {o : Oper}
theorem exec_str {x : Operand} {ao : Option Addr} {c : Nat} (l : List UInt8) (hop : o.op = .convert 51 9 x) (hx : ρ x = .slice ao l.length c) (w : World) (h : Lies w ao l) : (execOp ρ o).run Try.prog w = .ok (.value (.string ⟨l.toArray⟩)) w := by
  unfold execOp
  rw [hop]
  simp only [hx, Sem.run_bind, Sem.run_pure, Result.andThen_ok, run_str w ao l c h]
theorem load23 {w : World} {a : Addr} {v : Value} (hc : w.cell? a = some v) : (loadVar 22 a).run Try.prog w = .ok v w := by
  simp [loadVar, isAgg, Sem.run_bind, run_underlying Try.underlying22, hc, go_sem]
theorem exec_quo {x : Operand} {n : Nat} (hop : o.op = .binOp .quo 22 x (.const (.int .u32 256)) 22) (hx : ρ x = .int .u32 (n : Int) ∧ ρ (.const (.int .u32 256)) = .int .u32 256) (hn : n < 4294967296) (w : World) : (execOp ρ o).run Try.prog w = .ok (.value (.int .u32 ((n / 256 : Nat) : Int))) w := by
  unfold execOp
  rw [hop]
  simp [hx.1, hx.2, go_sem]
  rw [IntKind.wrap_u32]
  omega
theorem exec_leq {x y : Operand} {a b : Nat} (hop : o.op = .binOp .leq 22 x y 22) (hx : ρ x = .int .u32 (a : Int)) (hy : ρ y = .int .u32 (b : Int)) (w : World) : (execOp ρ o).run Try.prog w = .ok (.value (.bool (decide (a ≤ b)))) w := by
  unfold execOp
  rw [hop]
  simp [hx, hy, go_sem]
theorem size43 : (Try.prog.info? 44).map (·.size) = some 4 := by kernel_rfl
theorem load43 {w : World} {g : Nat} {c0 c1 c2 c3 : Value} (hg : w.heap[g]? = some (.cells #[c0, c1, c2, c3] 44 (0, 0))) : (loadVar 44 ⟨g, 0, none⟩).run Try.prog w = .ok (.agg #[c0, c1, c2, c3]) w :=
  run_loadVar_row w g 44 44 _ _ _ hg Try.underlying44 rfl size43
end
end Go.Proofs.Ytpknppicamefgaa
