/- Rows of any cells: read, copied; the cells of call's worlds. -/
import Derived.Test.YtodoenimlhldjaaQMBA
import Derived.Test.YtodoenimlhldjaaQBreaks
import Derived.Laws.CopyOwn
import Derived.Laws.MakeOwn
namespace Go.Proofs.Ytodoenimlhldjaa
open Go.ChangeShapes Go.WideShapes Go.ChangeAt Go.RowKit
set_option linter.unusedVariables false
/-- A row that may be read: m elements of z cells. -/
def Rw (w : World) (z : Nat) (v : Value) (m : Nat) (cs : List Value) : Prop := cs.length = m * z ∧ ∃ ao cap, v = .slice ao m cap ∧ (m = 0 ∨ ∃ b off, ao = some ⟨b, off, none⟩ ∧ b < w.heap.size ∧ ∀ j u, cs[j]? = some u → w.cell? ⟨b, off + j, none⟩ = some u)
theorem Rw.later {w w' : World} {z m : Nat} {v : Value} {cs : List Value} (h : Rw w z v m cs) (hb : Below w.heap.size w w') : Rw w' z v m cs := by
  obtain ⟨hl, ao, cap, e, h⟩ := h
  refine ⟨hl, ao, cap, e, ?_⟩
  rcases h with h | ⟨b, off, e2, hlt, hc⟩
  · exact .inl h
  · exact .inr ⟨b, off, e2, Nat.lt_of_lt_of_le hlt hb.size, fun j u hu => (hb.cell (p := ⟨b, off + j, none⟩) hlt).trans (hc j u hu)⟩
/-- A row that does not lie in block g. -/
def RwA (g : Nat) (w : World) (z : Nat) (v : Value) (m : Nat) (cs : List Value) : Prop := Rw w z v m cs ∧ (m = 0 ∨ ∀ b off l c, v = .slice (some ⟨b, off, none⟩) l c → b ≠ g)
theorem Rw.avoid {w : World} {z m g : Nat} {v : Value} {cs : List Value} (h : Rw w z v m cs) (hg : w.heap.size ≤ g) : RwA g w z v m cs := by
  refine ⟨h, ?_⟩
  obtain ⟨_, ao, cap, e, h⟩ := h
  rcases h with h | ⟨b, off, e2, hlt, _⟩
  · exact .inl h
  · refine .inr fun b' off' l c e3 => ?_
    rw [e, e2] at e3
    injection e3 with e4
    injection e4 with e5
    injection e5 with e6
    omega
theorem RwA.keep {g : Nat} {w w' : World} {z m : Nat} {v : Value} {cs : List Value} (h : RwA g w z v m cs) (k : Keep (· = g) w w') : RwA g w' z v m cs := by
  obtain ⟨⟨hl, ao, cap, e, h⟩, ha⟩ := h
  refine ⟨⟨hl, ao, cap, e, ?_⟩, ha⟩
  rcases h with h | ⟨b, off, e2, hlt, hc⟩
  · exact .inl h
  · by_cases h0 : m = 0
    · exact .inl h0
    · have hne : b ≠ g := (ha.resolve_left h0) b off m cap (by rw [e, e2])
      exact .inr ⟨b, off, e2, Nat.lt_of_lt_of_le hlt k.size, fun j u hu => (World.cell?_of_block (a := ⟨b, off + j, none⟩) (k.block b hlt hne)).trans (hc j u hu)⟩
/-- A row of the call's own, as it was made: no room to spare. -/
def Fr (w : World) (N : Nat) (T : TypeId) (v : Value) (m : Nat) (cs : List Value) : Prop := ∃ g, N ≤ g ∧ v = .slice (some ⟨g, 0, none⟩) m m ∧ Blk w g cs.toArray T
theorem Fr.rw {w : World} {N z m : Nat} {T : TypeId} {v : Value} {cs : List Value} (h : Fr w N T v m cs) (hl : cs.length = m * z) : Rw w z v m cs := by
  obtain ⟨g, _, e, hb⟩ := h
  refine ⟨hl, _, _, e, .inr ⟨g, 0, rfl, hb.lt, fun j u hu => ?_⟩⟩
  rw [Nat.zero_add]
  exact hb.cell (by simpa using hu)
theorem Fr.later {w w' : World} {N m : Nat} {T : TypeId} {v : Value} {cs : List Value} (h : Fr w N T v m cs) (hb : Below w.heap.size w w') : Fr w' N T v m cs := by
  obtain ⟨g, hN, e, hk⟩ := h
  exact ⟨g, hN, e, hk.later hb⟩
theorem Fr.mono {w : World} {N M m : Nat} {T : TypeId} {v : Value} {cs : List Value} (h : Fr w N T v m cs) (hM : M ≤ N) : Fr w M T v m cs := by
  obtain ⟨g, hN, e, hk⟩ := h
  exact ⟨g, Nat.le_trans hM hN, e, hk⟩
theorem Fr.keep {w w' : World} {N m n : Nat} {T : TypeId} {v : Value} {cs : List Value} (h : Fr w N T v m cs) (k : Keep (· = n) w w') (hn : n < N) : Fr w' N T v m cs := by
  obtain ⟨g, hN, e, hk⟩ := h
  exact ⟨g, hN, e, (k.block g hk.lt (by show ¬ g = n; omega)).trans hk⟩
theorem run_copyZ (w : World) (dT sT ty elem : TypeId) (z n g cap : Nat) (ad : Addr) (cur : Array Value) (t : TypeId) (cs : List Value) (hu : Try.prog.underlying dT = some (.slice elem)) (hs : (Try.prog.info? elem).map (·.size) = some z)
    (hg : w.heap[g]? = some (.cells cur t (0, 0))) (hc : cur.size = n * z) (hn : cs.length = n * z) (hsrc : ∀ j v, cs[j]? = some v → w.cell? (ad.add j) = some v) (h1 : ∀ v ∈ cs, v.oneCell' = true) :
    (Builtin.copy_ #[dT, sT] ty #[.slice (some ⟨g, 0, none⟩) n n, .slice (some ad) n cap]).run Try.prog w = .ok (goInt n) (w.setRow g cs.toArray) := by
  have hl := run_loadCells_list (P := Try.prog) w ad cs hsrc
  have hst := run_storeCells_at Try.prog g 0 t cs 0 cur w hg (by omega) h1
  have hd : cur.toList.drop (0 + 0 + cs.length) = [] := List.drop_eq_nil_of_le (by simp [hc, hn])
  rw [hd] at hst
  simp only [Nat.add_zero, List.take_zero, List.nil_append, List.append_nil] at hst
  cases hq : Try.prog.info? elem with
  | none => simp [hq] at hs
  | some i =>
    have hi : i.size = z := by simpa [hq] using hs
    simp [Builtin.copy_, run_underlying hu, Builtin.lenOf, Builtin.firstCells, sizeOf, typeInfo, hq, hi, ← hn, hl, hst]
theorem run_copyZ0 (w : World) (dT sT ty elem : TypeId) (z : Nat) (d a : Option Addr) (dc sc : Nat) (hu : Try.prog.underlying dT = some (.slice elem)) (hs : (Try.prog.info? elem).map (·.size) = some z) :
    (Builtin.copy_ #[dT, sT] ty #[.slice d 0 dc, .slice a 0 sc]).run Try.prog w = .ok (goInt 0) w := by
  have hl : ∀ (x : Addr), (loadCells x 0).run Try.prog w = .ok #[] w := fun x => by simpa using run_loadCells_list (P := Try.prog) w x [] (by simp)
  cases hq : Try.prog.info? elem with
  | none => simp [hq] at hs
  | some i => cases d <;> cases a <;> simp [Builtin.copy_, run_underlying hu, Builtin.lenOf, Builtin.firstCells, sizeOf, typeInfo, hq, storeCells, hl]
theorem wpList_copyZ {w : World} {ops : Array Oper} {rest : List Oper} {o : Oper} {a : Act} {Q : Exit → Act → World → Prop} (hgd : o.guard = none) (d s : Operand) (dT sT : TypeId)
    (ho : o.op = .call { callee := .builtin .copy, args := #[d, s], argTypes := #[dT, sT] }) (elem : TypeId) (hu : Try.prog.underlying dT = some (.slice elem)) (z : Nat) (hsz : (Try.prog.info? elem).map (·.size) = some z)
    (n g : Nat) (v : Value) (cs cur : List Value) (t : TypeId) (hd : a.eval d = .slice (some ⟨g, 0, none⟩) n n) (hs : a.eval s = v) (hr : Rw w z v n cs) (hg : Blk w g cur.toArray t) (hc : cur.length = n * z) (h1 : ∀ u ∈ cs, u.oneCell' = true)
    (h : ∀ w', Blk w' g cs.toArray t → Only g w w' → wpList Try.prog ops Q rest (a.put o.dst (goInt n)) w') : wpList Try.prog ops Q (o :: rest) a w := by
  refine wpList_plain hgd fun K hK => ?_
  obtain ⟨hl, ao, cap, rfl, hr⟩ := hr
  by_cases h0 : n = 0
  · subst h0
    have hrun := run_copyZ0 w dT sT o.type elem z (some ⟨g, 0, none⟩) ao 0 cap hu hsz
    have e1 : cs = [] := List.eq_nil_of_length_eq_zero (by omega)
    have e2 : cur = [] := List.eq_nil_of_length_eq_zero (by omega)
    subst e1
    subst e2
    unfold Oper.wp
    simp [execOp, ho, resolve, invoke, builtin, hd, hs, hrun, Result.andThen]
    exact hK _ _ (h w hg (Only.refl g w))
  · obtain ⟨b, off, rfl, hlt, hcell⟩ := hr.resolve_left h0
    have hrun := run_copyZ w dT sT o.type elem z n g cap ⟨b, off, none⟩ cur.toArray t cs hu hsz hg (by simpa using hc) hl (fun j u hu => by rw [Addr.add_lit]; exact hcell j u hu) h1
    unfold Oper.wp
    simp [execOp, ho, resolve, invoke, builtin, hd, hs, hrun, Result.andThen]
    exact hK _ _ (h _ (setRow_heap w g _ _ _ _ hg) (only_rowV w g _))
/-- Numbers, and events, as cells. -/
def cI (l : List Int) : List Value := l.map (Value.int .i64)
def cE (l : List (Int × ByteArray)) : List Value := l.flatMap fun e => [Value.int .u32 e.1, .string e.2]
theorem cI_len (l : List Int) : (cI l).length = l.length * 1 := by simp [cI]
theorem cE_len (l : List (Int × ByteArray)) : (cE l).length = l.length * 2 := by
  induction l with
  | nil => rfl
  | cons x l ih => show (_ :: _ :: cE l).length = _; rw [List.length_cons, List.length_cons, ih, List.length_cons]; omega
theorem cI_one (l : List Int) : ∀ u ∈ cI l, u.oneCell' = true := by
  intro u hu
  obtain ⟨x, _, rfl⟩ := List.mem_map.1 hu
  rfl
theorem cE_one (l : List (Int × ByteArray)) : ∀ u ∈ cE l, u.oneCell' = true := by
  intro u hu
  obtain ⟨x, _, hx⟩ := List.mem_flatMap.1 hu
  simp only [List.mem_cons, List.mem_nil_iff, or_false] at hx
  rcases hx with rfl | rfl <;> rfl
/-- A world's cells. -/
abbrev cwC (inp : ByteArray) (at_ : Int) (rd : Value) (us : Int) (ev : Value) : Array Value := #[.string inp, .int .i64 at_, rd, .int .i64 us, ev]
theorem sizeCw : (Try.prog.info? 38).map (·.size) = some 5 := by kernel_rfl
theorem sizeE2 : (Try.prog.info? 66).map (·.size) = some 2 := by kernel_rfl
theorem sizeI1 : (Try.prog.info? 3).map (·.size) = some 1 := by kernel_rfl
end Go.Proofs.Ytodoenimlhldjaa
namespace Go.Proofs.Ytodoenimlhldjaa
open Go.ChangeShapes Go.WideShapes Go.ChangeAt Go.RowKit
set_option linter.unusedVariables false
theorem make_I (M : Nat) (h : M ≤ 16384) (w : World) : (Instr.makeSlice 27 (.int .i64 (M : Int)) (.int .i64 (M : Int))).run Try.prog w = .ok (.slice (some ⟨w.heap.size, 0, none⟩) M M) (w.alloc (.cells (madeCells #[.int .i64 0] (M * 1)) 3)) := by
  obtain ⟨i, hi⟩ : ∃ i, Try.prog.info? 3 = some i := info_of_underlying Try.underlying3
  have hp : (Try.prog.info? 3).map (fun i => (i.zero, i.size, decide (i.bytes ≤ 64))) = some (some (.int .i64 0), 1, true) := by kernel_rfl
  rw [hi] at hp
  simp only [Option.map_some, Option.some.injEq, Prod.mk.injEq, decide_eq_true_eq] at hp
  obtain ⟨hz0, hz1, hz2⟩ := hp
  have h2 : (i.bytes : Int) ≤ 64 := by omega
  have h3 : (i.bytes : Int) * (M : Int) ≤ 64 * (M : Int) := Int.mul_le_mul_of_nonneg_right h2 (by omega)
  have h := run_make (P := Try.prog) w 27 3 i (.int .i64 0) Try.underlying27 hi hz0 .i64 .i64 (M : Int) (M : Int) (by omega) (Int.le_refl _) (by omega) (by omega)
  rw [hz1, Int.toNat_natCast] at h
  exact h
set_option maxRecDepth 20000 in
set_option maxHeartbeats 1000000 in
theorem anewI_any (w : World) (v : Value) (n : Nat) (cs : List Value) (hn : n ≤ 16384) (hr : Rw w 1 v n cs) (h1 : ∀ u ∈ cs, u.oneCell' = true) : Calls Try.prog 49 #[v] w fun e w' => ∃ v', e = .returned v' ∧ Fr w' w.heap.size 3 v' n cs ∧ Below w.heap.size w w' := by
  have HR := hidden hr
  have H1 := hidden h1
  obtain ⟨g, hg⟩ : ∃ g, w.heap.size = g := ⟨_, rfl⟩
  have hmk := make_I n hn w
  obtain ⟨cur, hcur⟩ : ∃ cur, madeCells #[.int .i64 0] (n * 1) = cur := ⟨_, rfl⟩
  have hcl : cur.toList.length = n * 1 := by rw [← hcur]; simp [madeCells]
  have hkb := Blk.new w cur 3
  have hbb := below_new w (.cells cur 3)
  rw [hcur] at hmk
  rw [hg] at hkb hbb
  obtain ⟨w1, hw1⟩ : ∃ w1, w.alloc (.cells cur 3) = w1 := ⟨_, rfl⟩
  rw [hw1] at hmk hkb hbb
  rw [hg] at hmk
  have hr1 := hr.later (w' := w1) (by rw [hg]; exact hbb)
  obtain ⟨hl, ao, cap, rfl, hrow⟩ := hr
  have HR1 := hidden hr1
  have HK := hidden hkb
  have HB := hidden hbb
  have HC := hidden hcl
  have HG := hidden hg
  clear hr1 hkb hbb hcl hrow hl h1 hw1 hg hcur hn
  go_enter Try.func49, Try.ntmps49
  go_wp2_with (first
    | (refine wpList_copyZ rfl _ _ 27 27 rfl 3 Try.underlying27 1 sizeI1 n g _ cs cur.toList 3 rfl rfl HR1.out HK.out HC.out H1.out ?_; rintro w2 k2 o2; have K2 := hidden k2; have B2 := hidden (Below.only HB.out o2 (Nat.le_refl g)); clear k2 o2))
  go_ret
  exact ⟨_, rfl, by rw [HG.out]; exact ⟨g, Nat.le_refl g, rfl, K2.out⟩, by rw [HG.out]; exact B2.out⟩
theorem make_E (M : Nat) (h : M ≤ 16384) (w : World) : (Instr.makeSlice 28 (.int .i64 (M : Int)) (.int .i64 (M : Int))).run Try.prog w = .ok (.slice (some ⟨w.heap.size, 0, none⟩) M M) (w.alloc (.cells (madeCells #[.int .u32 0, .string ⟨#[]⟩] (M * 2)) 66)) := by
  obtain ⟨i, hi⟩ : ∃ i, Try.prog.info? 66 = some i := info_of_underlying Try.underlying66
  have hp : (Try.prog.info? 66).map (fun i => (i.zero, i.size, decide (i.bytes ≤ 64))) = some (some (.agg #[.int .u32 0, .string ⟨#[]⟩]), 2, true) := by kernel_rfl
  rw [hi] at hp
  simp only [Option.map_some, Option.some.injEq, Prod.mk.injEq, decide_eq_true_eq] at hp
  obtain ⟨hz0, hz1, hz2⟩ := hp
  have h2 : (i.bytes : Int) ≤ 64 := by omega
  have h3 : (i.bytes : Int) * (M : Int) ≤ 64 * (M : Int) := Int.mul_le_mul_of_nonneg_right h2 (by omega)
  have h := run_make (P := Try.prog) w 28 66 i (.agg #[.int .u32 0, .string ⟨#[]⟩]) Try.underlying28 hi hz0 .i64 .i64 (M : Int) (M : Int) (by omega) (Int.le_refl _) (by omega) (by omega)
  rw [hz1, Int.toNat_natCast] at h
  exact h
set_option maxRecDepth 20000 in
set_option maxHeartbeats 1000000 in
theorem anewE_any (w : World) (v : Value) (n : Nat) (cs : List Value) (hn : n ≤ 16384) (hr : Rw w 2 v n cs) (h1 : ∀ u ∈ cs, u.oneCell' = true) : Calls Try.prog 63 #[v] w fun e w' => ∃ v', e = .returned v' ∧ Fr w' w.heap.size 66 v' n cs ∧ Below w.heap.size w w' := by
  have HR := hidden hr
  have H1 := hidden h1
  obtain ⟨g, hg⟩ : ∃ g, w.heap.size = g := ⟨_, rfl⟩
  have hmk := make_E n hn w
  obtain ⟨cur, hcur⟩ : ∃ cur, madeCells #[.int .u32 0, .string ⟨#[]⟩] (n * 2) = cur := ⟨_, rfl⟩
  have hcl : cur.toList.length = n * 2 := by rw [← hcur]; simp [madeCells]
  have hkb := Blk.new w cur 66
  have hbb := below_new w (.cells cur 66)
  rw [hcur] at hmk
  rw [hg] at hkb hbb
  obtain ⟨w1, hw1⟩ : ∃ w1, w.alloc (.cells cur 66) = w1 := ⟨_, rfl⟩
  rw [hw1] at hmk hkb hbb
  rw [hg] at hmk
  have hr1 := hr.later (w' := w1) (by rw [hg]; exact hbb)
  obtain ⟨hl, ao, cap, rfl, hrow⟩ := hr
  have HR1 := hidden hr1
  have HK := hidden hkb
  have HB := hidden hbb
  have HC := hidden hcl
  have HG := hidden hg
  clear hr1 hkb hbb hcl hrow hl h1 hw1 hg hcur hn
  go_enter Try.func63, Try.ntmps63
  go_wp2_with (first
    | (refine wpList_copyZ rfl _ _ 28 28 rfl 66 Try.underlying28 2 sizeE2 n g _ cs cur.toList 66 rfl rfl HR1.out HK.out HC.out H1.out ?_; rintro w2 k2 o2; have K2 := hidden k2; have B2 := hidden (Below.only HB.out o2 (Nat.le_refl g)); clear k2 o2))
  go_ret
  exact ⟨_, rfl, by rw [HG.out]; exact ⟨g, Nat.le_refl g, rfl, K2.out⟩, by rw [HG.out]; exact B2.out⟩
end Go.Proofs.Ytodoenimlhldjaa
namespace Go.Proofs.Ytodoenimlhldjaa
open Go.ChangeShapes Go.WideShapes Go.ChangeAt Go.RowKit
set_option linter.unusedVariables false
theorem nlt2 (n : Nat) : n < n + 2 := by omega
theorem Rw.one {w : World} {z m : Nat} {v : Value} {cs : List Value} (h : Rw w z v m cs) : v.oneCell' = true := by
  obtain ⟨_, ao, cap, rfl, _⟩ := h
  rfl
theorem Fr.one {w : World} {N m : Nat} {T : TypeId} {v : Value} {cs : List Value} (h : Fr w N T v m cs) : v.oneCell' = true := by
  obtain ⟨g, _, rfl, _⟩ := h
  rfl
def zCw : Array Value := cwC ⟨#[]⟩ 0 (.slice none 0 0) 0 (.slice none 0 0)
theorem cw_one {inp : ByteArray} {at_ us : Int} {rd ev : Value} (h1 : rd.oneCell' = true) (h2 : ev.oneCell' = true) : (cwC inp at_ rd us ev).all (·.oneCell') = true := by
  have e1 : (Value.string inp).oneCell' = true := rfl
  have e2 : ∀ x : Int, (Value.int .i64 x).oneCell' = true := fun _ => rfl
  simp [e1, e2, h1, h2]
theorem wpList_allocCw {ops : Array Oper} {rest : List Oper} {o : Oper} {a : Act} {w : World} {Q : Exit → Act → World → Prop} (hgd : o.guard = none) (ho : o.op = .alloc 38)
    (h : ∀ w1, Blk w1 w.heap.size zCw 38 → w1.heap.size = w.heap.size + 1 → Below w.heap.size w w1 → wpList Try.prog ops Q rest (a.put o.dst (.pointer (some ⟨w.heap.size, 0, none⟩))) w1) : wpList Try.prog ops Q (o :: rest) a w := by
  refine Great.wpList_runTo hgd o.dst rfl (.pointer (some ⟨w.heap.size, 0, none⟩)) (w.alloc (.cells zCw 38)) ?_ (h _ (Blk.new w _ _) (by simp) (below_new w _))
  obtain ⟨dst, op, ty, pos, aft, gd⟩ := o
  simp only at ho
  subst ho
  kernel_rfl
theorem wpList_loadCw {ops : Array Oper} {rest : List Oper} {o : Oper} {a : Act} {w : World} {Q : Exit → Act → World → Prop} (hgd : o.guard = none) (x : Operand) (ho : o.op = .load 38 x)
    (g : Nat) (cs : Array Value) (hx : a.eval x = .pointer (some ⟨g, 0, none⟩)) (hg : Blk w g cs 38) (hs : cs.size = 5)
    (h : wpList Try.prog ops Q rest (a.put o.dst (.agg cs)) w) : wpList Try.prog ops Q (o :: rest) a w :=
  wpList_load_row hgd 38 x ho g hx 38 cs (0, 0) _ hg Try.underlying38 rfl (by rw [hs]; exact sizeCw) h
theorem wpList_storeCw {ops : Array Oper} {rest : List Oper} {o : Oper} {a : Act} {w : World} {Q : Exit → Act → World → Prop} (hgd : o.guard = none) (hd : o.dst = none) (x y : Operand) (ho : o.op = .store 38 x y)
    (g : Nat) (old cs : Array Value) (hx : a.eval x = .pointer (some ⟨g, 0, none⟩)) (hy : a.eval y = .agg cs) (hg : Blk w g old 38) (ho2 : old.size = 5) (hs : cs.size = 5) (h1 : cs.all (·.oneCell') = true)
    (h : ∀ w1, Blk w1 g cs 38 → Only g w w1 → wpList Try.prog ops Q rest a w1) : wpList Try.prog ops Q (o :: rest) a w :=
  wpList_storeG hgd hd 38 x y ho g old cs hx hy hg (by rw [hs]; exact sizeCw) (by rw [ho2, hs]) h1 h
theorem loadIs {w : World} {a : Addr} {v : Value} (hc : w.cell? a = some v) : (loadVar 27 a).run Try.prog w = .ok v w := by simp [loadVar, isAgg, Sem.run_bind, run_underlying Try.underlying27, hc, go_sem]
theorem loadEs {w : World} {a : Addr} {v : Value} (hc : w.cell? a = some v) : (loadVar 28 a).run Try.prog w = .ok v w := by simp [loadVar, isAgg, Sem.run_bind, run_underlying Try.underlying28, hc, go_sem]
theorem loadStr {w : World} {a : Addr} {v : Value} (hc : w.cell? a = some v) : (loadVar 9 a).run Try.prog w = .ok v w := by simp [loadVar, isAgg, Sem.run_bind, run_underlying Try.underlying9, hc, go_sem]
theorem sizeIs1 : (Try.prog.info? 27).map (·.size) = some 1 := by kernel_rfl
theorem sizeEs1 : (Try.prog.info? 28).map (·.size) = some 1 := by kernel_rfl
theorem exec_store1 {ρ : Operand → Value} {o : Oper} {x y : Operand} {ty T : TypeId} {g k : Nat} {cs : Array Value} {v : Value} (hop : o.op = .store ty x y) (hx : ρ x = .pointer (some ⟨g, k, none⟩)) (hy : ρ y = v) (hv : v.oneCell' = true) (hi : (Try.prog.info? ty).map (·.size) = some 1) (w : World) (hg : Blk w g cs T) (hk : k < cs.size) : (execOp ρ o).run Try.prog w = .ok .skip (w.setCell ⟨g, k, none⟩ v) := by
  unfold execOp
  simp only [hop, hx, hy, Instr.storeAt, Instr.sureAddr, Sem.run_bind, Sem.run_pure, Result.andThen_ok, run_storeVar_one w g k ty v cs T hv hi hg hk]
/-- How a world is made one's own: only its block n turns, and its lists only to rows that are new. -/
structure OwR (n : Nat) (l : List Int) (e : List (Int × ByteArray)) (w w' : World) : Prop where
  keep : Keep (· = n) w w'
  blk : ∀ inp at_ rd us ev, Blk w n (cwC inp at_ rd us ev) 38 → ∃ rd' ev', Blk w' n (cwC inp at_ rd' us ev') 38 ∧ (rd' = rd ∨ Fr w' (n + 2) 3 rd' l.length (cI l)) ∧ (ev' = ev ∨ Fr w' (n + 2) 66 ev' e.length (cE e))
theorem later_ow (n : Nat) (l : List Int) (e : List (Int × ByteArray)) : Later (OwR n l e) :=
  ⟨fun w => ⟨Keep.refl _ w, fun _ _ rd _ ev h => ⟨rd, ev, h, .inl rfl, .inl rfl⟩⟩, fun u v w h k => ⟨h.keep.trans k.keep fun _ _ e => e, fun inp at_ rd us ev hb => by
    obtain ⟨rd1, ev1, b1, r1, e1⟩ := h.blk inp at_ rd us ev hb
    obtain ⟨rd2, ev2, b2, r2, e2⟩ := k.blk inp at_ rd1 us ev1 b1
    refine ⟨rd2, ev2, b2, ?_, ?_⟩
    · rcases r2 with rfl | r2
      · exact r1.imp id fun f => f.keep k.keep (nlt2 n)
      · exact .inr r2
    · rcases e2 with rfl | e2
      · exact e1.imp id fun f => f.keep k.keep (nlt2 n)
      · exact .inr e2⟩, fun w => ⟨⟨rfl, rfl, rfl, Nat.le_refl _, fun _ _ _ => rfl⟩, fun _ _ rd _ ev h => ⟨rd, ev, h, .inl rfl, .inl rfl⟩⟩⟩
theorem OwR.of_below {n : Nat} {l : List Int} {e : List (Int × ByteArray)} {w w' : World} (h : Below w.heap.size w w') : OwR n l e w w' := ⟨Keep.of_below h, fun _ _ rd _ ev hb => ⟨rd, ev, hb.later h, .inl rfl, .inl rfl⟩⟩
theorem OwR.put2 {n : Nat} {l : List Int} {e : List (Int × ByteArray)} {w : World} {v : Value} (h : Fr w (n + 2) 3 v l.length (cI l)) : OwR n l e w (w.setCell ⟨n, 2, none⟩ v) :=
  ⟨keep_setCell w n 2 v, fun inp at_ rd us ev hb => ⟨v, ev, heap_setCell_same w n 2 _ _ v hb, .inr (h.keep (keep_setCell w n 2 v) (nlt2 n)), .inl rfl⟩⟩
theorem OwR.put4 {n : Nat} {l : List Int} {e : List (Int × ByteArray)} {w : World} {v : Value} (h : Fr w (n + 2) 66 v e.length (cE e)) : OwR n l e w (w.setCell ⟨n, 4, none⟩ v) :=
  ⟨keep_setCell w n 4 v, fun inp at_ rd us ev hb => ⟨rd, v, heap_setCell_same w n 4 _ _ v hb, .inl rfl, .inr (h.keep (keep_setCell w n 4 v) (nlt2 n))⟩⟩
/-- What the slots of the region hold, whatever the order. -/
def phiOw (n : Nat) (inp : ByteArray) (at_ us : Int) (l : List Int) (e : List (Int × ByteArray)) : Nat → Value → World → Prop
  | 0, x, _ => x = .pointer (some ⟨n, 2, none⟩)
  | 1, x, w => RwA n w 1 x l.length (cI l)
  | 2, x, w => Fr w (n + 2) 3 x l.length (cI l)
  | 3, x, _ => x = .pointer (some ⟨n, 4, none⟩)
  | 4, x, w => RwA n w 2 x e.length (cE e)
  | 5, x, w => Fr w (n + 2) 66 x e.length (cE e)
  | 6, x, _ => x = .pointer (some ⟨n, 2, none⟩)
  | 7, x, w => ∃ rd ev, Blk w n (cwC inp at_ rd us ev) 38 ∧ Fr w (n + 2) 3 rd l.length (cI l)
  | 8, x, _ => x = .pointer (some ⟨n, 4, none⟩)
  | 9, x, w => ∃ rd ev, Blk w n (cwC inp at_ rd us ev) 38 ∧ Fr w (n + 2) 66 ev e.length (cE e)
  | _ + 10, _, _ => True
theorem phiOw_mono (n : Nat) (inp : ByteArray) (at_ us : Int) (l : List Int) (e : List (Int × ByteArray)) : ∀ i x w w', phiOw n inp at_ us l e i x w → OwR n l e w w' → phiOw n inp at_ us l e i x w'
  | 0, _, _, _, h, _ => h
  | 1, x, w, w', h, hb => h.keep hb.keep
  | 2, x, w, w', h, hb => h.keep hb.keep (nlt2 n)
  | 3, _, _, _, h, _ => h
  | 4, x, w, w', h, hb => h.keep hb.keep
  | 5, x, w, w', h, hb => h.keep hb.keep (nlt2 n)
  | 6, _, _, _, h, _ => h
  | 7, x, w, w', h, hb => by obtain ⟨rd, ev, h1, h2⟩ := h; obtain ⟨rd2, ev2, b2, r2, _⟩ := hb.blk _ _ _ _ _ h1; refine ⟨rd2, ev2, b2, ?_⟩; rcases r2 with rfl | r2; exact h2.keep hb.keep (nlt2 n); exact r2
  | 8, _, _, _, h, _ => h
  | 9, x, w, w', h, hb => by obtain ⟨rd, ev, h1, h2⟩ := h; obtain ⟨rd2, ev2, b2, _, r2⟩ := hb.blk _ _ _ _ _ h1; refine ⟨rd2, ev2, b2, ?_⟩; rcases r2 with rfl | r2; exact h2.keep hb.keep (nlt2 n); exact r2
  | _ + 10, _, _, _, _, _ => trivial
theorem listOw : ∀ xs : List Value, xs.length = 10 → ∃ x0 x1 x2 x3 x4 x5 x6 x7 x8 x9, xs = [x0, x1, x2, x3, x4, x5, x6, x7, x8, x9]
  | [x0, x1, x2, x3, x4, x5, x6, x7, x8, x9], _ => ⟨_, _, _, _, _, _, _, _, _, _, rfl⟩
theorem Rw.avoid2 {w : World} {z m n : Nat} {T : TypeId} {v : Value} {cs : List Value} (h : Rw w z v m cs) (hf : Fr w (n + 2) T v m cs) : RwA n w z v m cs := by
  refine ⟨h, .inr fun b off l c e => ?_⟩
  obtain ⟨g, hN, e2, _⟩ := hf
  rw [e2] at e
  injection e with e4
  injection e4 with e5
  injection e5 with e6
  omega
set_option maxRecDepth 20000 in
set_option maxHeartbeats 1000000 in
theorem own_any (w : World) (inp : ByteArray) (at_ us : Int) (rd ev : Value) (l : List Int) (e : List (Int × ByteArray)) (hr : Rw w 1 rd l.length (cI l)) (he : Rw w 2 ev e.length (cE e)) (hl : l.length ≤ 16384) (hel : e.length ≤ 16384) : Calls Try.prog 34 #[.agg (cwC inp at_ rd us ev)] w fun x w' => ∃ rd' ev', x = .returned (.agg (cwC inp at_ rd' us ev')) ∧ Fr w' w.heap.size 3 rd' l.length (cI l) ∧ Fr w' w.heap.size 66 ev' e.length (cE e) ∧ Below w.heap.size w w' := by
  obtain ⟨n, hn⟩ : ∃ n, w.heap.size = n := ⟨_, rfl⟩
  obtain ⟨C, hC⟩ : ∃ C, cwC inp at_ rd us ev = C := ⟨_, rfl⟩
  have HR := hidden (hr.avoid (g := n) (by omega))
  have HE := hidden (he.avoid (g := n) (by omega))
  have HL := hidden hl
  have HEL := hidden hel
  have HC := hidden hC
  rw [hC]
  clear hC hr he hl hel
  go_enter Try.func34, Try.ntmps34
  go_upto_region 1 with (first
    | (refine wpList_boxG rfl 38 _ rfl C rfl ?_; rintro w1 k1 s1 b1; rw [hn] at k1 s1 b1 ⊢; have K1 : Hid (Blk w1 n (cwC inp at_ rd us ev) 38) := hidden (by rw [HC.out]; exact k1); have S1 := hidden s1; have B1 := hidden b1; clear k1 s1 b1)
    | (refine wpList_allocCw rfl rfl ?_; rintro w2 k2 s2 b2; rw [S1.out] at k2 s2 b2 ⊢; have HB := hidden (K1.out.later (by rw [S1.out]; exact b2)); have S2 := hidden s2; have Z2 := hidden k2; have B2 := hidden (B1.out.trans (b2.mono (by omega))); have BB := hidden (show Keep (· = n) w w2 from Keep.mono (Keep.of_below (F := nought) (by rw [hn]; exact B1.out.trans (b2.mono (by omega)))) (fun _ _ h => h.elim)); clear k2 s2 b2 B1 K1))
  have HR2 := hidden (HR.out.keep BB.out)
  have HE2 := hidden (HE.out.keep BB.out)
  clear HR HE BB
  have HR := HR2
  have HE := HE2
  clear HR2 HE2
  have N2 : Hid (n + 2 ≤ w2.heap.size) := hidden (by have := S2.out; omega)
  refine wp_region_on (later_ow n l e) [3, 4, 5, 6, 7, 8, 9, 1007, 10, 1009] 10 (phiOw n inp at_ us l e) (by kernel_rfl) (by kernel_rfl) rfl rfl (phiOw_mono n inp at_ us l e) ?_ ?_
  · intro j hj xs w3 hxs hR hpre
    obtain ⟨x0, x1, x2, x3, x4, x5, x6, x7, x8, x9, rfl⟩ := listOw xs hxs
    have hN3 : n + 2 ≤ w3.heap.size := Nat.le_trans N2.out hR.keep.size
    rcases (show j = 0 ∨ j = 1 ∨ j = 2 ∨ j = 3 ∨ j = 4 ∨ j = 5 ∨ j = 6 ∨ j = 7 ∨ j = 8 ∨ j = 9 by omega) with rfl | rfl | rfl | rfl | rfl | rfl | rfl | rfl | rfl | rfl
    · exact wpOp_run (.pointer (some ⟨n, 2, none⟩)) rfl (by kernel_rfl) (by kernel_rfl) ⟨_, by kernel_rfl, rfl, (later_ow _ _ _).refl _⟩
    · have e0 : x0 = .pointer (some ⟨n, 2, none⟩) := hpre 0 (by kernel_rfl)
      subst e0
      obtain ⟨rd1, ev1, b1, r1, s1⟩ := hR.blk _ _ _ _ _ HB.out
      exact wpOp_run rd1 rfl (by kernel_rfl) (exec_load 27 rfl (by kernel_rfl) w3 (loadIs (b1.cell (j := 2) rfl))) ⟨_, by kernel_rfl, (by rcases r1 with rfl | r1; exact HR.out.keep hR.keep; exact (r1.rw (cI_len l)).avoid2 r1), (later_ow _ _ _).refl _⟩
    · have f1 : RwA n w3 1 x1 l.length (cI l) := hpre 1 (by kernel_rfl)
      refine wpOp_callR (R := fun u w4 => Fr w4 (n + 2) 3 u l.length (cI l) ∧ Below w3.heap.size w3 w4) 49 #[x1] rfl (by kernel_rfl) (by kernel_rfl) ((anewI_any w3 x1 _ _ HL.out f1.1 (cI_one _)).mono fun x w4 h => by obtain ⟨v, hv, hf, hb⟩ := h; exact ⟨v, hv, hf.mono hN3, hb⟩) ?_
      rintro u w4 ⟨hf, hb4⟩
      exact ⟨_, by kernel_rfl, hf, OwR.of_below hb4⟩
    · exact wpOp_run (.pointer (some ⟨n, 4, none⟩)) rfl (by kernel_rfl) (by kernel_rfl) ⟨_, by kernel_rfl, rfl, (later_ow _ _ _).refl _⟩
    · have e3 : x3 = .pointer (some ⟨n, 4, none⟩) := hpre 3 (by kernel_rfl)
      subst e3
      obtain ⟨rd1, ev1, b1, r1, s1⟩ := hR.blk _ _ _ _ _ HB.out
      exact wpOp_run ev1 rfl (by kernel_rfl) (exec_load 28 rfl (by kernel_rfl) w3 (loadEs (b1.cell (j := 4) rfl))) ⟨_, by kernel_rfl, (by rcases s1 with rfl | s1; exact HE.out.keep hR.keep; exact (s1.rw (cE_len e)).avoid2 s1), (later_ow _ _ _).refl _⟩
    · have f4 : RwA n w3 2 x4 e.length (cE e) := hpre 4 (by kernel_rfl)
      refine wpOp_callR (R := fun u w4 => Fr w4 (n + 2) 66 u e.length (cE e) ∧ Below w3.heap.size w3 w4) 63 #[x4] rfl (by kernel_rfl) (by kernel_rfl) ((anewE_any w3 x4 _ _ HEL.out f4.1 (cE_one _)).mono fun x w4 h => by obtain ⟨v, hv, hf, hb⟩ := h; exact ⟨v, hv, hf.mono hN3, hb⟩) ?_
      rintro u w4 ⟨hf, hb4⟩
      exact ⟨_, by kernel_rfl, hf, OwR.of_below hb4⟩
    · exact wpOp_run (.pointer (some ⟨n, 2, none⟩)) rfl (by kernel_rfl) (by kernel_rfl) ⟨_, by kernel_rfl, rfl, (later_ow _ _ _).refl _⟩
    · have e6 : x6 = .pointer (some ⟨n, 2, none⟩) := hpre 6 (by kernel_rfl)
      subst e6
      have f2 : Fr w3 (n + 2) 3 x2 l.length (cI l) := hpre 2 (by kernel_rfl)
      obtain ⟨rd1, ev1, b1, _, _⟩ := hR.blk _ _ _ _ _ HB.out
      exact wpOp_put rfl (by kernel_rfl) (exec_store1 (g := n) (k := 2) (T := 38) rfl (by kernel_rfl) (by kernel_rfl) f2.one sizeIs1 w3 b1 (show 2 < 5 by decide)) ⟨.bool true, by kernel_rfl, ⟨x2, ev1, heap_setCell_same w3 n 2 _ _ x2 b1, f2.keep (keep_setCell w3 n 2 x2) (nlt2 n)⟩, OwR.put2 f2⟩
    · exact wpOp_run (.pointer (some ⟨n, 4, none⟩)) rfl (by kernel_rfl) (by kernel_rfl) ⟨_, by kernel_rfl, rfl, (later_ow _ _ _).refl _⟩
    · have e8 : x8 = .pointer (some ⟨n, 4, none⟩) := hpre 8 (by kernel_rfl)
      subst e8
      have f5 : Fr w3 (n + 2) 66 x5 e.length (cE e) := hpre 5 (by kernel_rfl)
      obtain ⟨rd1, ev1, b1, _, _⟩ := hR.blk _ _ _ _ _ HB.out
      exact wpOp_put rfl (by kernel_rfl) (exec_store1 (g := n) (k := 4) (T := 38) rfl (by kernel_rfl) (by kernel_rfl) f5.one sizeEs1 w3 b1 (show 4 < 5 by decide)) ⟨.bool true, by kernel_rfl, ⟨rd1, x5, heap_setCell_same w3 n 4 _ _ x5 b1, f5.keep (keep_setCell w3 n 4 x5) (nlt2 n)⟩, OwR.put4 f5⟩
  · intro xs w3 hxs hR hall
    obtain ⟨x0, x1, x2, x3, x4, x5, x6, x7, x8, x9, rfl⟩ := listOw xs hxs
    have e0 : x0 = .pointer (some ⟨n, 2, none⟩) := hall 0 (by omega)
    subst e0
    obtain ⟨rd1, ev1, b1, f1⟩ : ∃ rd ev, Blk w3 n (cwC inp at_ rd us ev) 38 ∧ Fr w3 (n + 2) 3 rd l.length (cI l) := hall 7 (by omega)
    obtain ⟨rd2, ev2, b2, f2⟩ : ∃ rd ev, Blk w3 n (cwC inp at_ rd us ev) 38 ∧ Fr w3 (n + 2) 66 ev e.length (cE e) := hall 9 (by omega)
    have e4 : ev1 = ev2 := Option.some.inj ((b1.cell (j := 4) rfl).symm.trans (b2.cell (j := 4) rfl))
    subst e4
    have K3 := hidden b1
    have F1 := hidden f1
    have F2 := hidden f2
    have Z3 : Hid (Blk w3 (n + 1) zCw 38) := hidden ((hR.keep.block (n + 1) Z2.out.lt (by show ¬ n + 1 = n; omega)).trans Z2.out)
    have B3 := hidden (B2.out.trans (hR.keep.below (by have := N2.out; omega) (fun b hb => by rw [hb]; exact Nat.le_refl n)))
    clear hall hR hxs b1 b2 f1 f2 B2 S2 S1 Z2 HB N2
    simp only [slotsOn, putAll]
    go_wp2_with (first
      | (refine wpList_loadCw rfl _ rfl n (cwC inp at_ rd1 us ev1) rfl K3.out rfl ?_)
      | (refine wpList_storeCw rfl rfl _ _ rfl (n + 1) zCw (cwC inp at_ rd1 us ev1) (by kernel_rfl) (by kernel_rfl) Z3.out rfl rfl (cw_one F1.out.one F2.out.one) ?_; rintro w4 k4 o4; have K4 := hidden k4; have B4 := hidden (Below.only B3.out o4 (by omega)); have G1 := hidden (F1.out.keep (Keep.of_only o4) (by omega)); have G2 := hidden (F2.out.keep (Keep.of_only o4) (by omega)); clear k4 o4))
    refine bodyPost_ret (results_cell_row rfl _ _ (n + 1) 38 _ (0, 0) _ (by kernel_rfl) K4.out Try.underlying38 rfl sizeCw) rfl ⟨_, _, rfl, ?_, ?_, ?_⟩
    · rw [hn]; exact G1.out.mono (by omega)
    · rw [hn]; exact G2.out.mono (by omega)
    · rw [hn]; exact B4.out
end Go.Proofs.Ytodoenimlhldjaa
