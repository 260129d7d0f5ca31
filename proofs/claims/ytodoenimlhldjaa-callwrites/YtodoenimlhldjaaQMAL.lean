/- A memory of one part. -/
import Derived.Test.YtodoenimlhldjaaQMAJ
import Derived.Test.YtodoenimlhldjaaQMAK
import Derived.Test.YtodoenimlhldjaaQMAH
import Derived.Deep.AppendSrc
import Derived.Test.YtodoenimlhldjaaQMAG
namespace Go.Proofs.Ytodoenimlhldjaa
open Go.ChangeShapes Go.WideShapes Go.ChangeAt Go.RowKit
set_option linter.unusedVariables false
theorem full_amap {f : AM} (hf : Full f) (a : Nat) (z : Int) : Full (amap f a z) := by
  intro k x hx
  unfold amap at hx
  by_cases e : k = pageOf a
  · subst e
    rw [if_pos rfl] at hx
    cases hq : f (pageOf a) with
    | none =>
      rw [hq] at hx
      simp at hx
      rw [← hx]
      exact zeros_len
    | some y =>
      rw [hq] at hx
      simp at hx
      rw [← hx]
      show y.1.length = 256
      exact hf _ _ hq
  · rw [if_neg e] at hx
    exact hf _ _ hx
theorem full_apoke {f : AM} (hf : Full f) (a : Nat) (v : UInt8) : Full (apoke f a v) := by
  intro k x hx
  unfold apoke at hx
  by_cases e : k = pageOf a
  · subst e
    rw [if_pos rfl] at hx
    cases hq : f (pageOf a) with
    | none => rw [hq] at hx; simp at hx
    | some y =>
      rw [hq] at hx
      simp at hx
      rw [← hx]
      simpa using hf _ _ hq
  · rw [if_neg e] at hx
    exact hf _ _ hx
theorem full_maps {f : AM} (hf : Full f) (p : Part4) : ∀ k, Full (partMaps f p k)
  | 0 => hf
  | k + 1 => full_amap (full_maps hf p k) _ _
theorem full_pokes {f : AM} (hf : Full f) (p : Part4) : ∀ k, Full (partPokes f p k)
  | 0 => hf
  | k + 1 => full_apoke (full_pokes hf p k) _ _
theorem some_amap (f : AM) (a : Nat) (z : Int) (k : Nat) : (amap f a z k).isSome = (decide (k = pageOf a) || (f k).isSome) := by
  unfold amap
  by_cases e : k = pageOf a
  · rw [if_pos e, decide_eq_true e]
    cases f k with
    | none => rfl
    | some y => rfl
  · rw [if_neg e, decide_eq_false e, Bool.false_or]
theorem some_apoke (f : AM) (a : Nat) (v : UInt8) (k : Nat) : (apoke f a v k).isSome = (f k).isSome := by
  unfold apoke
  split <;> simp
theorem some_awatch (f : AM) (a : Nat) (v : Bool) (k : Nat) : (awatch f a v k).isSome = (f k).isSome := by
  unfold awatch
  split <;> simp
theorem some_pokes (f : AM) (p : Part4) (q : Nat) : ∀ k, (partPokes f p k q).isSome = (f q).isSome
  | 0 => rfl
  | k + 1 => by rw [partPokes, some_apoke, some_pokes f p q k]
theorem some_maps (p : Part4) (q : Nat) : ∀ k, (partMaps (fun _ => none) p k q).isSome = true ↔ ∃ j, j < k ∧ q = pageOf (wrapAt p.at_ j)
  | 0 => by simp [partMaps]
  | k + 1 => by
    rw [partMaps, some_amap, Bool.or_eq_true, some_maps p q k, decide_eq_true_eq]
    constructor
    · rintro (h | ⟨j, hj, h⟩)
      · exact ⟨k, by omega, h⟩
      · exact ⟨j, by omega, h⟩
    · rintro ⟨j, hj, h⟩
      by_cases e : j = k
      · subst e; exact .inl h
      · exact .inr ⟨j, by omega, h⟩
theorem getA_poke {f : AM} (hf : Full f) {a : Nat} (hs : (f (pageOf a)).isSome = true) (v : UInt8) (b : Nat) : getA (apoke f a v) b = if b = a then v else getA f b := by
  have hlt := Nat.mod_lt a (show 256 > 0 by omega)
  unfold getA apoke
  by_cases e : pageOf b = pageOf a
  · rw [if_pos e, e]
    cases hq : f (pageOf a) with
    | none => rw [hq] at hs; cases hs
    | some y =>
      have hl := hf _ _ hq
      simp only [Option.map_some]
      by_cases e2 : b = a
      · rw [if_pos e2, e2]
        simp [List.getD_eq_getElem?_getD, hl, hlt]
      · have hne : a % 256 ≠ b % 256 := by unfold pageOf at e; omega
        rw [if_neg e2]
        simp only [List.getD_eq_getElem?_getD, List.getElem?_set_ne hne]
  · rw [if_neg e, if_neg (fun e2 => e (by rw [e2]))]
theorem pokes_get {f : AM} (hf : Full f) (p : Part4) (hm : ∀ j, j < p.data.length → (f (pageOf (wrapAt p.at_ j))).isSome = true) (hsm : p.at_ + p.data.length ≤ 4294967296) : ∀ k, k ≤ p.data.length → ∀ j, j < k → getA (partPokes f p k) (wrapAt p.at_ j) = p.data.getD j 0
  | 0, _, j, hj => by omega
  | k + 1, hk, j, hj => by
    rw [partPokes, getA_poke (full_pokes hf p k) (by rw [some_pokes]; exact hm k (by omega))]
    by_cases e : j = k
    · subst e
      rw [if_pos rfl]
    · have hne : wrapAt p.at_ j ≠ wrapAt p.at_ k := by unfold wrapAt; omega
      rw [if_neg hne]
      exact pokes_get hf p hm hsm k (by omega) j (by omega)
theorem getA_watch (f : AM) (a : Nat) (v : Bool) (b : Nat) : getA (awatch f a v) b = getA f b := by
  unfold getA awatch
  by_cases e : pageOf b = pageOf a
  · rw [if_pos e]
    cases f (pageOf b) with
    | none => rfl
    | some y => rfl
  · rw [if_neg e]
theorem one_get (p : Part4) (hl : 1 ≤ p.data.length) (hsm : p.at_ + p.data.length ≤ 4294967296) (j : Nat) (hj : j < p.data.length) : getA (memOf [p]) (wrapAt p.at_ j) = p.data.getD j 0 := by
  show getA (awatch (partDone (fun _ => none) p) p.at_ p.on) _ = _
  rw [getA_watch]
  unfold partDone
  rw [show max p.data.length 1 = p.data.length by omega]
  exact pokes_get (full_maps (fun _ _ h => by cases h) p _) p (fun j hj => (some_maps p _ _).2 ⟨j, hj, rfl⟩) hsm _ (Nat.le_refl _) j hj
theorem one_some (p : Part4) (hl : 1 ≤ p.data.length) (q : Nat) : (memOf [p] q).isSome = true ↔ ∃ j, j < p.data.length ∧ q = pageOf (wrapAt p.at_ j) := by
  show (awatch (partDone (fun _ => none) p) p.at_ p.on q).isSome = true ↔ _
  rw [some_awatch]
  unfold partDone
  rw [some_pokes, show max p.data.length 1 = p.data.length by omega]
  exact some_maps p q _
/-- How many pages. -/
theorem one_pages {w : World} {s : MS} {p : Part4} (h : MemW w s) (hab : s.abs = memOf [p]) (hl : 1 ≤ p.data.length) (hat : p.at_ < 256) (hsm : p.data.length ≤ 401) : s.ks.length = (p.at_ + (p.data.length - 1)) / 256 + 1 := by
  have hmem : ∀ k, k ∈ s.ks ↔ k ∈ (List.range ((p.at_ + (p.data.length - 1)) / 256 + 1)).map (· * 256) := by
    intro k
    rw [mem_abs, hab, one_some p hl, List.mem_map]
    constructor
    · rintro ⟨j, hj, e⟩
      refine ⟨k / 256, List.mem_range.2 ?_, ?_⟩
      · unfold pageOf wrapAt at e
        omega
      · unfold pageOf wrapAt at e
        omega
    · rintro ⟨q, hq, e⟩
      rw [List.mem_range] at hq
      refine ⟨if q = 0 then 0 else q * 256 - p.at_, ?_, ?_⟩
      · split <;> omega
      · unfold pageOf wrapAt
        split <;> omega
  have hnd : ((List.range ((p.at_ + (p.data.length - 1)) / 256 + 1)).map (· * 256)).Nodup := by
    refine List.pairwise_map.2 (List.Pairwise.imp ?_ List.nodup_range)
    intro x y hxy e
    have : x * 256 = y * 256 := e
    omega
  have := length_of_same h.nodup hnd hmem
  simpa using this
end Go.Proofs.Ytodoenimlhldjaa
namespace Go.Proofs.Ytodoenimlhldjaa
open Go.ChangeShapes Go.WideShapes Go.ChangeAt Go.RowKit
set_option linter.unusedVariables false
theorem append0 (w : World) (bo : Option Addr) (l : List UInt8) (cap : Nat) (ty : TypeId) (hl : Row w bo l cap) (hlen : l.length ≤ 400) :
    ∃ ao' cap' w2, (Builtin.append_ #[50, 50] ty #[.slice (some ⟨w.heap.size, 0, none⟩) 1 1, .slice bo l.length cap]).run Try.prog (w.alloc (.cells #[.int .u8 0] 5)) = .ok (.slice ao' (0 :: l).length cap') w2 ∧ Row w2 ao' (0 :: l) cap' ∧ Below w.heap.size w w2 := by
  obtain ⟨i0, hi, hz0, hz1, hz2⟩ := info_parts info5
  have hb1 : Below w.heap.size w (w.alloc (.cells #[.int .u8 0] 5)) := (Below.refl _ w).alloc (Nat.le_refl _) _
  have hown : (w.alloc (.cells #[.int .u8 0] 5)).ownsRow w.heap.size 5 1 (.slice (some ⟨w.heap.size, 0, none⟩) 1 1) 1 (cellsU [0]) :=
    ⟨rfl, .inr ⟨w.heap.size, 1, _, rfl, Nat.le_refl _, heap_alloc_new w _, Nat.le_refl _, by unfold maxLen; omega, rfl, rfl⟩⟩
  cases bo with
  | none =>
    have h0 := hl.nil rfl
    have h1 := hl.len
    obtain rfl : l = [] := List.eq_nil_of_length_eq_zero (by omega)
    subst h0
    have := run_append_room_src (P := Try.prog) (w.alloc (.cells #[.int .u8 0] 5)) 50 50 ty 5 i0 Try.underlying50 hi w.heap.size 0 1 1 (.slice none 0 0) 0 [] (Src.ofNil _ Try.underlying50 0) (by omega) (by simp) (by simp)
    refine ⟨_, _, _, this, ?_, ?_⟩
    · exact (lies_of_own (l := [0]) rfl hown)
    · exact hb1
  | some ad =>
    have hc : ∀ j u, (cellsU l)[j]? = some u → (w.alloc (.cells #[.int .u8 0] 5)).cell? (ad.add j) = some u := by
      rcases (hl.later hb1).lies with h | ⟨b, off, e, h⟩
      · intro j u hu
        rw [h] at hu
        simp [cellsU] at hu
      · simp only [Option.some.injEq] at e
        subst e
        exact Lies.cells h
    obtain ⟨v', w', hr, ho, hgr, _, _⟩ := run_append_own_at (P := Try.prog) (w.alloc (.cells #[.int .u8 0] 5)) w.heap.size 50 ty 5 i0 (.int .u8 0) 1 1 Try.underlying50 hi hz0 hz1 hz2 rfl (by decide) _ _ _ hown ad l.length cap (cellsU l) (by rw [cellsU_len, Nat.mul_one]) hc (cellsU_one l) (by unfold maxLen; omega) (by omega) (by simp)
    rw [← cellsU_append] at ho
    obtain ⟨ao, cap', rfl, hrow⟩ := row_of_own (l := 0 :: l) (by simp; omega) ho
    refine ⟨ao, cap', w', by rw [hr]; simp [Nat.add_comm], hrow, hb1.grown hgr hb1.size fun g hg => ?_⟩
    simp [Value.ownBlock] at hg
    omega
theorem build57 (x : Int) (ao : Option Addr) (n c : Nat) (w : World) : (Instr.build 52 #[(0, .int .u32 x), (1, .slice ao n c), (2, .int .i64 6)]).run Try.prog w = .ok (.agg #[.int .u32 x, .slice ao n c, .int .i64 6, .bool false]) w := by kernel_rfl
/-- The one part, as it lies there. -/
theorem piece_one (w : World) (fr : Nat) (hfr : fr < 256) (ao : Option Addr) (l : List UInt8) (cap : Nat) (hr : Row w ao l cap) : Pieces (w.alloc (.cells #[.int .u32 (fr : Int), .slice ao l.length cap, .int .i64 6, .bool false] 52)) (some ⟨w.heap.size, 0, none⟩) [⟨fr, l, 6, false, ao, cap⟩] := by
  have hb := heap_alloc_new w (.cells #[.int .u32 (fr : Int), .slice ao l.length cap, .int .i64 6, .bool false] 52)
  refine .inr ⟨w.heap.size, 0, rfl, (Array.getElem?_eq_some_iff.1 hb).1, fun j hj => ?_⟩
  obtain rfl : j = 0 := by simpa using hj
  refine ⟨?_, ?_, ?_, ?_, hr.later ((Below.refl _ w).alloc (Nat.le_refl _) _), by show fr < _; omega⟩
  · rw [cell_of_row _ _ _ _ _ _ hb]; rfl
  · rw [cell_of_row _ _ _ _ _ _ hb]; rfl
  · rw [cell_of_row _ _ _ _ _ _ hb]; rfl
  · rw [cell_of_row _ _ _ _ _ _ hb]; rfl
theorem exec_add1 {ρ : Operand → Value} {o : Oper} {x : Operand} {fr : Nat} (hop : o.op = .binOp .add 23 x (.const (.int .u32 1)) 23) (hx : ρ x = .int .u32 (fr : Int) ∧ ρ (.const (.int .u32 1)) = .int .u32 1) (hfr : fr < 256) (w : World) : (execOp ρ o).run Try.prog w = .ok (.value (.int .u32 ((fr : Int) + 1))) w := by
  have e : ((fr : Int) + 1) % 4294967296 = (fr : Int) + 1 := by omega
  unfold execOp
  rw [hop]
  simp [hx.1, hx.2, go_sem, IntKind.wrap_u32, e]
theorem exec_str {ρ : Operand → Value} {o : Oper} {x : Operand} {a : Option Addr} {c : Nat} (L : List UInt8) (hop : o.op = .convert 50 9 x) (hx : ρ x = .slice a L.length c) (w : World) (h : Lies w a L) : (execOp ρ o).run Try.prog w = .ok (.value (.string ⟨L.toArray⟩)) w := by
  unfold execOp
  rw [hop]
  have := run_str w a L c h
  simp [hx, this, go_sem]
theorem exec_neqS {ρ : Operand → Value} {o : Oper} {x y : Operand} (A : ByteArray) (hop : o.op = .binOp .neq 9 x y 9) (hx : ρ x = .string A) (hy : ρ y = .string A) (w : World) : (execOp ρ o).run Try.prog w = .ok (.value (.bool false)) w := by
  unfold execOp
  rw [hop]
  simp [hx, hy, go_sem]
theorem wpList_append_run {P : Program} {w : World} {ops : Array Oper} {rest : List Oper} {o : Oper} {a : Act} {Q : Exit → Act → World → Prop} (hgd : o.guard = none) (s x : Operand) (t tx : TypeId)
    (ho : o.op = .call { callee := .builtin .append, args := #[s, x], argTypes := #[t, tx] }) {vs vx v' : Value} {w' : World} (hs : a.eval s = vs) (hx : a.eval x = vx)
    (hr : (Builtin.append_ #[t, tx] o.type #[vs, vx]).run P w = .ok v' w') (h : wpList P ops Q rest (a.put o.dst v') w') : wpList P ops Q (o :: rest) a w :=
  wpList_plain hgd fun _ hK => by
    unfold Oper.wp execOp
    simp only [ho, resolve, invoke, builtin, Sem.run_bind, Sem.run_pure, Result.andThen_ok, List.map_toArray, List.map_cons, List.map_nil, hs, hx, hr]
    exact hK _ _ h
end Go.Proofs.Ytodoenimlhldjaa
namespace Go.Proofs.Ytodoenimlhldjaa
open Go.ChangeShapes Go.WideShapes Go.ChangeAt Go.RowKit
set_option linter.unusedVariables false
def Blk (w : World) (n : Nat) (cs : Array Value) (T : TypeId) : Prop := w.heap[n]? = some (.cells cs T (0, 0))
theorem Blk.lt {w : World} {n : Nat} {cs : Array Value} {T : TypeId} (h : Blk w n cs T) : n < w.heap.size := (Array.getElem?_eq_some_iff.1 h).1
theorem Blk.cell {w : World} {n : Nat} {cs : Array Value} {T : TypeId} (h : Blk w n cs T) {j : Nat} {v : Value} (hj : cs[j]? = some v) : w.cell? ⟨n, j, none⟩ = some v := (cell_of_row _ _ _ _ _ _ h).trans hj
theorem Blk.later {w w' : World} {n : Nat} {cs : Array Value} {T : TypeId} (h : Blk w n cs T) (hb : Below w.heap.size w w') : Blk w' n cs T := (hb.block n h.lt).trans h
theorem Blk.new (w : World) (cs : Array Value) (T : TypeId) : Blk (w.alloc (.cells cs T)) w.heap.size cs T := heap_alloc_new w _
theorem below_new (w : World) (o : Obj) : Below w.heap.size w (w.alloc o) := (Below.refl _ w).alloc (Nat.le_refl _) _
theorem bthen {u v w : World} (h : Below u.heap.size u v) (k : Below v.heap.size v w) : Below u.heap.size u w := h.trans (k.mono h.size)
end Go.Proofs.Ytodoenimlhldjaa
