/- Bytes in memory: that they lie where a slice begins, what stays of that, what append makes of them, and as texts. -/
import Derived.Test.YtjpmagekianpdaaRows
import Derived.Test.YtjpmagekianpdaaBits
import Derived.WalkKit
import Derived.ProofKit
import Derived.OpenShut
import Derived.Handy
import Derived.Laws.BitsAllLaws
import Derived.Laws.ShiftsVarLaws
import Derived.Laws.IdiomStrings
namespace Go.Proofs.Ytjpmagekianpdaa
open Go.ChangeShapes Go.WideShapes Go.ChangeAt Go.RowKit
set_option linter.unusedVariables false
theorem info5 : (Try.prog.info? 5).map (fun i => (i.zero, i.size, i.bytes)) = some (some (.int .u8 0), 1, 1) := by kernel_rfl
def cellsU (l : List UInt8) : List Value := l.map fun x => Value.int .u8 (x.toNat : Int)
theorem cellsU_len (l : List UInt8) : (cellsU l).length = l.length := by simp [cellsU]
theorem cellsU_get (l : List UInt8) (j : Nat) (h : j < l.length) : (cellsU l)[j]? = some (Value.int .u8 ((l.getD j 0).toNat : Int)) := by
  simp [cellsU, List.getD_eq_getElem?_getD, List.getElem?_eq_getElem h]
theorem cellsU_append (l m : List UInt8) : cellsU (l ++ m) = cellsU l ++ cellsU m := by simp [cellsU]
theorem cellsU_one (l : List UInt8) : ∀ u ∈ cellsU l, u.oneCell' = true := by
  intro u hu
  simp only [cellsU, List.mem_map] at hu
  obtain ⟨n, _, rfl⟩ := hu
  rfl
/-- The bytes l lie where the address says (nothing is said of none). -/
def Lies (w : World) (ao : Option Addr) (l : List UInt8) : Prop :=
  l = [] ∨ ∃ b off, ao = some ⟨b, off, none⟩ ∧ ∀ j, j < l.length → w.cell? ⟨b, off + j, none⟩ = some (.int .u8 ((l.getD j 0).toNat : Int))
/-- A slice of the bytes l. -/
structure Row (w : World) (ao : Option Addr) (l : List UInt8) (cap : Nat) : Prop where
  len : l.length ≤ cap
  max : cap ≤ maxLen
  nil : ao = none → cap = 0
  lies : Lies w ao l
theorem Lies.later {w w' : World} {ao : Option Addr} {l : List UInt8} (h : Lies w ao l) (hb : Below w.heap.size w w') : Lies w' ao l := by
  rcases h with h | ⟨b, off, rfl, hc⟩
  · exact .inl h
  · by_cases h0 : l = []
    · exact .inl h0
    · have hlt : b < w.heap.size := World.block_lt_of_cell? _ _ (hc 0 (by cases l <;> simp_all))
      exact .inr ⟨b, off, rfl, fun j hj => (hb.cell (by exact hlt)).trans (hc j hj)⟩
theorem Row.later {w w' : World} {ao : Option Addr} {l : List UInt8} {cap : Nat} (h : Row w ao l cap) (hb : Below w.heap.size w w') : Row w' ao l cap := ⟨h.len, h.max, h.nil, h.lies.later hb⟩
theorem Row.cut {w : World} {ao : Option Addr} {l : List UInt8} {cap : Nat} (h : Row w ao l cap) : Row w ao l l.length :=
  ⟨Nat.le_refl _, Nat.le_trans h.len h.max, fun e => by have := h.nil e; have := h.len; omega, h.lies⟩
theorem Row.none (w : World) : Row w none [] 0 := ⟨Nat.le_refl _, by simp [maxLen], fun _ => rfl, .inl rfl⟩
theorem Lies.cells {w : World} {b off : Nat} {l : List UInt8} (h : ∀ j, j < l.length → w.cell? ⟨b, off + j, none⟩ = some (.int .u8 ((l.getD j 0).toNat : Int))) : ∀ j u, (cellsU l)[j]? = some u → w.cell? ((⟨b, off, none⟩ : Addr).add j) = some u := by
  intro j u hu
  have hj : j < l.length := by
    have := (List.getElem?_eq_some_iff.1 hu).1
    simpa [cellsU] using this
  rw [cellsU_get l j hj] at hu
  simp only [Option.some.injEq] at hu
  rw [← hu, Addr.add_lit]
  exact h j hj
/-- What a row of the call's own says of itself. -/
theorem lies_of_own {w : World} {base g n cap : Nat} {l : List UInt8} (hn : n = l.length) (h : w.ownsRow base 5 1 (.slice (some ⟨g, 0, none⟩) n cap) n (cellsU l)) : Row w (some ⟨g, 0, none⟩) l cap := by
  subst hn
  rcases h.2 with ⟨h', _⟩ | ⟨g', cap', cur, h', _, hg, hnc, hcm, _, htake⟩
  · simp at h'
  · simp only [Value.slice.injEq, Option.some.injEq, Addr.mk.injEq, and_true, true_and] at h'
    obtain ⟨rfl, rfl⟩ := h'
    refine ⟨hnc, hcm, by simp, .inr ⟨g, 0, rfl, fun j hj => ?_⟩⟩
    have hc := h.cellAt j (by omega)
    rw [cellsU_get l j hj] at hc
    rw [Nat.zero_add]
    exact hc
theorem row_of_own {w : World} {base n : Nat} {v : Value} {l : List UInt8} (hn : n = l.length) (h : w.ownsRow base 5 1 v n (cellsU l)) : ∃ ao cap, v = .slice ao n cap ∧ Row w ao l cap := by
  have h2 := h
  rcases h.2 with ⟨rfl, h0⟩ | ⟨g, cap, cur, rfl, _⟩
  · have : l = [] := List.eq_nil_of_length_eq_zero (by omega)
    subst this
    subst h0
    exact ⟨none, 0, rfl, Row.none w⟩
  · exact ⟨_, cap, rfl, lies_of_own hn h2⟩
theorem below_grown {w w' : World} {row : Option Nat} (B : Nat) (hB : B ≤ w.heap.size) (hg : w.grownBy w' row) (hr : ∀ k, row = some k → B ≤ k) : Below B w w' := (Below.refl B w).grown hg hB hr
/-- One byte put behind a row of the call's own: the byte lies in a block of its own first. -/
theorem wpList_push {ops : Array Oper} {rest : List Oper} {o : Oper} {a : Act} {Q : Exit → Act → World → Prop} {w : World} {x : Value} (hgd : o.guard = none) (s y : Operand)
    (ho : o.op = .call { callee := .builtin .append, args := #[s, y], argTypes := #[22, 22] }) (base : Nat) (v : Value) (l : List UInt8) (z : UInt8) (hs : a.eval s = v) (hy : a.eval y = .slice (some ⟨w.heap.size, 0, none⟩) 1 1)
    (hown : w.ownsRow base 5 1 v l.length (cellsU l)) (hx : x = .int .u8 (z.toNat : Int)) (hl : l.length < 1000) (hbase : base ≤ w.heap.size)
    (h : ∀ v' w', w'.ownsRow base 5 1 v' (l ++ [z]).length (cellsU (l ++ [z])) → Below base w w' → wpList Try.prog ops Q rest (a.put o.dst v') w') : wpList Try.prog ops Q (o :: rest) a (w.alloc (.cells #[x] 5)) := by
  obtain ⟨i0, hi, hz0, hz1, hz2⟩ := info_parts info5
  subst hx
  refine wpList_append_own _ hgd s y 22 ho base 5 i0 (.int .u8 0) 1 1 Try.underlying22 hi hz0 hz1 hz2 rfl (by decide) v l.length (cellsU l) hs (hown.alloc _) ⟨w.heap.size, 0, none⟩ 1 1 (cellsU [z]) hy rfl ?_ (cellsU_one _) (by simp [maxLen]; omega) (by omega) (by simp; omega) ?_
  · refine Lies.cells (fun j hj => ?_)
    have : j = 0 := by simp at hj; omega
    subst this
    rw [cell_of_row _ _ _ _ _ _ (heap_alloc_new w _)]
    rfl
  · intro v' w' hown' hgrow _
    rw [← cellsU_append] at hown'
    refine h v' w' (by simpa using hown') ?_
    refine ((Below.refl base w).alloc hbase _).grown hgrow (by simp; omega) ?_
    intro k hk
    exact (hown.lt k hk).1
/-- Bytes put behind bytes whose room is cut off: nothing that was there is written. -/
theorem run_behind (w : World) (ao bo : Option Addr) (c : Nat) (l m : List UInt8) (hl : Row w ao l l.length) (hm : Lies w bo m) (hsum : l.length + m.length ≤ 140737488355328) :
    ∃ ao' cap' w', (Builtin.append_ #[22, 22] 22 #[.slice ao l.length l.length, .slice bo m.length c]).run Try.prog w = .ok (.slice ao' (l.length + m.length) cap') w' ∧ Row w' ao' (l ++ m) cap' ∧ Below w.heap.size w w' := by
  obtain ⟨i0, hi, hz0, hz1, hz2⟩ := info_parts info5
  by_cases hm0 : m = []
  · subst hm0
    refine ⟨ao, l.length, w, ?_, by simpa using hl, Below.refl _ _⟩
    cases ao with
    | none =>
      have h0 := hl.nil rfl
      cases bo <;> simp [Builtin.append_, run_underlying Try.underlying22, sizeOf, typeInfo, hi, Builtin.lenOf, Builtin.firstCells, loadCells, loadCellsFrom, h0]
    | some a =>
      cases bo <;> simp [Builtin.append_, run_underlying Try.underlying22, sizeOf, typeInfo, hi, Builtin.lenOf, Builtin.firstCells, loadCells, loadCellsFrom, storeCells]
  · obtain ⟨b2, off2, rfl, hc2⟩ : ∃ b off, bo = some ⟨b, off, none⟩ ∧ ∀ j, j < m.length → w.cell? ⟨b, off + j, none⟩ = some (.int .u8 ((m.getD j 0).toNat : Int)) := by
      rcases hm with h | h
      · exact absurd h hm0
      · exact h
    have hpos : 0 < m.length := by cases m <;> simp_all
    have hrow : ∀ (C : Nat), l.length + m.length ≤ C → C ≤ maxLen → ∀ zs : Array Value, Row (w.drew.alloc (.cells ((cellsU l ++ cellsU m).toArray ++ zs) 5)) (some ⟨w.heap.size, 0, none⟩) (l ++ m) C := by
      intro C h1 h2 zs
      refine ⟨by simpa using h1, h2, by simp, .inr ⟨w.heap.size, 0, rfl, fun j hj => ?_⟩⟩
      refine (World.cell?_alloc_mark w.drew _ 5 (0, 0) (0 + j)).trans ?_
      rw [Nat.zero_add, ← cellsU_append, Array.getElem?_append_left (by rw [List.size_toArray, cellsU_len]; exact hj), List.getElem?_toArray]
      exact cellsU_get _ _ hj
    have hbel : ∀ o, Below w.heap.size w (w.drew.alloc o) := fun o => (Below.refl _ _).drew.alloc (by simp) o
    cases ao with
    | none =>
      have h0 := hl.nil rfl
      have hl0 : l = [] := List.eq_nil_of_length_eq_zero h0
      subst hl0
      have hr := run_append_nil (P := Try.prog) w 22 22 5 i0 (.int .u8 0) Try.underlying22 hi hz0 ⟨b2, off2, none⟩ m.length c (cellsU m) (by rw [cellsU_len, hz1, Nat.mul_one]) (Lies.cells hc2) hpos (by omega) (by rw [hz2]; omega)
      refine ⟨_, _, _, by simpa using hr, ?_, hbel _⟩
      have := hrow (grownCap w m.length 0 5) (by simpa using grownCap_ge w m.length 0 5) (grownCap_le_maxLen w _ _ _ (by simp only [maxLen]; omega))
      simpa [cellsU] using this _
    | some a =>
      have holds : ∀ j u, (cellsU l)[j]? = some u → w.cell? (a.add j) = some u := by
        rcases hl.lies with rfl | ⟨b, off, ha, hc⟩
        · intro j u hu; simp [cellsU] at hu
        · cases ha; exact Lies.cells hc
      have hr := run_append_grow (P := Try.prog) w 22 22 5 i0 (.int .u8 0) Try.underlying22 hi hz0 a l.length l.length (cellsU l) (by rw [cellsU_len, hz1, Nat.mul_one]) holds ⟨b2, off2, none⟩ m.length c (cellsU m) (by rw [cellsU_len, hz1, Nat.mul_one]) (Lies.cells hc2) (by omega) (by omega) (growslice_fits (by omega) (by rw [hz2]; omega))
      refine ⟨_, _, _, hr, ?_, hbel _⟩
      have := hrow (grownCap w (l.length + m.length) l.length 5) (grownCap_ge w _ _ 5) (grownCap_le_maxLen w _ _ _ (by simp only [maxLen]; omega)) (Builtin.zeroCells (Value.int IntKind.u8 0).cells (grownCap w (l.length + m.length) l.length 5 - (l.length + m.length)))
      have e : (cellsU l ++ cellsU m).toArray = (cellsU l).toArray ++ (cellsU m).toArray := by simp
      rw [e] at this
      exact this
theorem wpList_append_run {P : Program} {w : World} {ops : Array Oper} {rest : List Oper} {o : Oper} {a : Act} {Q : Exit → Act → World → Prop} (hgd : o.guard = none) (s x : Operand) (t tx : TypeId)
    (ho : o.op = .call { callee := .builtin .append, args := #[s, x], argTypes := #[t, tx] }) {vs vx v' : Value} {w' : World} (hs : a.eval s = vs) (hx : a.eval x = vx)
    (hr : (Builtin.append_ #[t, tx] o.type #[vs, vx]).run P w = .ok v' w') (h : wpList P ops Q rest (a.put o.dst v') w') : wpList P ops Q (o :: rest) a w :=
  wpList_plain hgd fun _ hK => by
    unfold Oper.wp execOp
    simp only [ho, resolve, invoke, builtin, Sem.run_bind, Sem.run_pure, Result.andThen_ok, List.map_toArray, List.map_cons, List.map_nil, hs, hx, hr]
    exact hK _ _ h
theorem run_str (w : World) (ao : Option Addr) (l : List UInt8) (cap : Nat) (h : Lies w ao l) : (convert 22 9 (.slice ao l.length cap)).run Try.prog w = .ok (.string ⟨l.toArray⟩) w := by
  by_cases h0 : l = []
  · subst h0
    rw [run_convert_bytes_string w 22 9 5 ao _ cap Try.underlying22 Try.underlying5 Try.underlying9]
    cases ao with
    | none => simp [Conv.bytesToString]; rfl
    | some a => simp [Conv.bytesToString, loadCells, loadCellsFrom]; rfl
  · rcases h with h | ⟨b, off, rfl, hc⟩
    · exact absurd h h0
    · refine run_convert_bytes_back w 22 9 5 ⟨b, off, none⟩ cap l Try.underlying22 Try.underlying5 Try.underlying9 ?_
      intro j hj
      rw [Addr.add_lit, hc j hj, List.getD_eq_getElem?_getD, List.getElem?_eq_getElem hj, Option.getD_some]
theorem run_bytes (w : World) (t : List UInt8) : ∃ g c w2, (convert 9 22 (.string ⟨t.toArray⟩)).run Try.prog w = .ok (.slice (some ⟨g, 0, none⟩) t.length c) w2 ∧ Lies w2 (some ⟨g, 0, none⟩) t ∧ Below w.heap.size w w2 := by
  have h := run_bytes_of_string (P := Try.prog) w 9 22 5 ⟨t.toArray⟩ Try.underlying9 Try.underlying22 Try.underlying5
  refine ⟨_, _, _, h, .inr ⟨w.heap.size, 0, rfl, fun j hj => ?_⟩, (Below.refl _ _).drew.alloc (by simp) _⟩
  refine (World.cell?_alloc_mark w.drew _ 5 _ (0 + j)).trans ?_
  rw [Nat.zero_add]
  unfold bytesRow
  rw [Array.getElem?_append_left (by simpa using hj)]
  simp [List.getD_eq_getElem?_getD, List.getElem?_eq_getElem hj]
end Go.Proofs.Ytjpmagekianpdaa
