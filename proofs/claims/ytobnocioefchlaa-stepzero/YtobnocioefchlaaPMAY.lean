/- Blocks of single types: made, boxed, put, loaded. -/
import Derived.Test.YtobnocioefchlaaPMAX
import Derived.Test.YtobnocioefchlaaPWdA
import Derived.Test.YtobnocioefchlaaPMAW
import Derived.Test.YtobnocioefchlaaPMAM
import Derived.Laws.StructEq
import Derived.Test.YtobnocioefchlaaPMAC
import Derived.Maps.AppendAt
namespace Go.Proofs.Ytobnocioefchlaa
open Go.ChangeShapes Go.WideShapes Go.ChangeAt Go.RowKit
set_option linter.unusedVariables false
theorem Blk.only {w w' : World} {b g : Nat} {cs : Array Value} {T : TypeId} (h : Blk w b cs T) (ho : Only g w w') (hn : b ≠ g) : Blk w' b cs T := (ho.block b hn).trans h
theorem Below.only {B g : Nat} {u w w' : World} (h : Below B u w) (ho : Only g w w') (hB : B ≤ g) : Below B u w' := h.trans (ho.below hB)
theorem Blk.frozen {w : World} {g : Nat} {cs : Array Value} {T : TypeId} (h : Blk w g cs T) (k : Nat) : w.frozen? ⟨g, k, none⟩ = false := by
  have h2 : w.heap[g]? = some (.cells cs T (0, 0)) := h
  simp [World.frozen?, h2]
theorem Only.setCells {g : Nat} {w : World} (j : Nat) (v : Value) : Only g w (w.setCell ⟨g, j, none⟩ v) := (Only.refl g w).setCell j v
/-- A value that is boxed. -/
theorem wpList_boxG {ops : Array Oper} {rest : List Oper} {o : Oper} {a : Act} {w : World} {Q : Exit → Act → World → Prop} (hgd : o.guard = none) (T : TypeId) (x : Operand) (ho : o.op = .box T x) (cs : Array Value) (hx : a.eval x = .agg cs)
    (h : ∀ w1, Blk w1 w.heap.size cs T → w1.heap.size = w.heap.size + 1 → Below w.heap.size w w1 → wpList Try.prog ops Q rest (a.put o.dst (.pointer (some ⟨w.heap.size, 0, none⟩))) w1) : wpList Try.prog ops Q (o :: rest) a w := by
  refine Great.wpList_runTo hgd o.dst rfl (.pointer (some ⟨w.heap.size, 0, none⟩)) (w.alloc (.cells cs T)) ?_ (h _ (Blk.new w _ _) (by simp) (below_new w _))
  unfold execOp
  simp only [ho, hx]
  simp [go_sem]
/-- A row of any type that is put over one of its size. -/
theorem wpList_storeG {ops : Array Oper} {rest : List Oper} {o : Oper} {a : Act} {w : World} {Q : Exit → Act → World → Prop} (hgd : o.guard = none) (hd : o.dst = none) (T : TypeId) (x y : Operand) (ho : o.op = .store T x y)
    (g : Nat) (old cs : Array Value) (hx : a.eval x = .pointer (some ⟨g, 0, none⟩)) (hy : a.eval y = .agg cs) (hg : Blk w g old T) (hi : (Try.prog.info? T).map (·.size) = some cs.size) (hs : old.size = cs.size) (h1 : cs.all (·.oneCell') = true)
    (h : ∀ w1, Blk w1 g cs T → Only g w w1 → wpList Try.prog ops Q rest a w1) : wpList Try.prog ops Q (o :: rest) a w := by
  refine wpList_store_row hgd T x y ho g cs hx hy T old hg hi hs h1 ?_
  rw [hd]
  exact h _ (setRow_heap w g old cs T (0, 0) hg) (only_rowV w g cs)
def zLn : Array Value := #[.string ⟨#[]⟩, .int .i64 0, .int .u32 0, .int .i64 0]
theorem sizeLn' : (Try.prog.info? 130).map (·.size) = some 4 := by kernel_rfl
theorem wpList_allocLn {ops : Array Oper} {rest : List Oper} {o : Oper} {a : Act} {w : World} {Q : Exit → Act → World → Prop} (hgd : o.guard = none) (ho : o.op = .alloc 130)
    (h : ∀ w1, Blk w1 w.heap.size zLn 130 → w1.heap.size = w.heap.size + 1 → Below w.heap.size w w1 → wpList Try.prog ops Q rest (a.put o.dst (.pointer (some ⟨w.heap.size, 0, none⟩))) w1) : wpList Try.prog ops Q (o :: rest) a w := by
  refine Great.wpList_runTo hgd o.dst rfl (.pointer (some ⟨w.heap.size, 0, none⟩)) (w.alloc (.cells zLn 130)) ?_ (h _ (Blk.new w _ _) (by simp) (below_new w _))
  obtain ⟨dst, op, ty, pos, aft, gd⟩ := o
  simp only at ho
  subst ho
  kernel_rfl
theorem wpList_loadLn {ops : Array Oper} {rest : List Oper} {o : Oper} {a : Act} {w : World} {Q : Exit → Act → World → Prop} (hgd : o.guard = none) (x : Operand) (ho : o.op = .load 130 x)
    (g : Nat) (cs : Array Value) (hx : a.eval x = .pointer (some ⟨g, 0, none⟩)) (hg : Blk w g cs 130) (hs : cs.size = 4)
    (h : wpList Try.prog ops Q rest (a.put o.dst (.agg cs)) w) : wpList Try.prog ops Q (o :: rest) a w :=
  wpList_load_row hgd 130 x ho g hx 130 cs (0, 0) _ hg Try.underlying130 rfl (by rw [hs]; exact sizeLn') h
theorem wpList_storeLn {ops : Array Oper} {rest : List Oper} {o : Oper} {a : Act} {w : World} {Q : Exit → Act → World → Prop} (hgd : o.guard = none) (hd : o.dst = none) (x y : Operand) (ho : o.op = .store 130 x y)
    (g : Nat) (old cs : Array Value) (hx : a.eval x = .pointer (some ⟨g, 0, none⟩)) (hy : a.eval y = .agg cs) (hg : Blk w g old 130) (ho2 : old.size = 4) (hs : cs.size = 4) (h1 : cs.all (·.oneCell') = true)
    (h : ∀ w1, Blk w1 g cs 130 → Only g w w1 → wpList Try.prog ops Q rest a w1) : wpList Try.prog ops Q (o :: rest) a w :=
  wpList_storeG hgd hd 130 x y ho g old cs hx hy hg (by rw [hs]; exact sizeLn') (by rw [ho2, hs]) h1 h
def zRw : Array Value := #[.string ⟨#[]⟩, .int .i64 0, .int .u32 0, .int .u32 0, .int .u32 0, .int .i64 0, .int .u32 0, .int .i64 0, .int .i64 0, .bool false, .int .i64 0, .bool false]
theorem sizeRw' : (Try.prog.info? 99).map (·.size) = some 12 := by kernel_rfl
theorem wpList_allocRw {ops : Array Oper} {rest : List Oper} {o : Oper} {a : Act} {w : World} {Q : Exit → Act → World → Prop} (hgd : o.guard = none) (ho : o.op = .alloc 99)
    (h : ∀ w1, Blk w1 w.heap.size zRw 99 → w1.heap.size = w.heap.size + 1 → Below w.heap.size w w1 → wpList Try.prog ops Q rest (a.put o.dst (.pointer (some ⟨w.heap.size, 0, none⟩))) w1) : wpList Try.prog ops Q (o :: rest) a w := by
  refine Great.wpList_runTo hgd o.dst rfl (.pointer (some ⟨w.heap.size, 0, none⟩)) (w.alloc (.cells zRw 99)) ?_ (h _ (Blk.new w _ _) (by simp) (below_new w _))
  obtain ⟨dst, op, ty, pos, aft, gd⟩ := o
  simp only at ho
  subst ho
  kernel_rfl
theorem wpList_loadRw {ops : Array Oper} {rest : List Oper} {o : Oper} {a : Act} {w : World} {Q : Exit → Act → World → Prop} (hgd : o.guard = none) (x : Operand) (ho : o.op = .load 99 x)
    (g : Nat) (cs : Array Value) (hx : a.eval x = .pointer (some ⟨g, 0, none⟩)) (hg : Blk w g cs 99) (hs : cs.size = 12)
    (h : wpList Try.prog ops Q rest (a.put o.dst (.agg cs)) w) : wpList Try.prog ops Q (o :: rest) a w :=
  wpList_load_row hgd 99 x ho g hx 99 cs (0, 0) _ hg Try.underlying99 rfl (by rw [hs]; exact sizeRw') h
theorem wpList_storeRw {ops : Array Oper} {rest : List Oper} {o : Oper} {a : Act} {w : World} {Q : Exit → Act → World → Prop} (hgd : o.guard = none) (hd : o.dst = none) (x y : Operand) (ho : o.op = .store 99 x y)
    (g : Nat) (old cs : Array Value) (hx : a.eval x = .pointer (some ⟨g, 0, none⟩)) (hy : a.eval y = .agg cs) (hg : Blk w g old 99) (ho2 : old.size = 12) (hs : cs.size = 12) (h1 : cs.all (·.oneCell') = true)
    (h : ∀ w1, Blk w1 g cs 99 → Only g w w1 → wpList Try.prog ops Q rest a w1) : wpList Try.prog ops Q (o :: rest) a w :=
  wpList_storeG hgd hd 99 x y ho g old cs hx hy hg (by rw [hs]; exact sizeRw') (by rw [ho2, hs]) h1 h
def zFa : Array Value := #[.int .i64 0, .int .u32 0, .bool false, .int .u32 0]
theorem sizeFa' : (Try.prog.info? 32).map (·.size) = some 4 := by kernel_rfl
theorem wpList_allocFa {ops : Array Oper} {rest : List Oper} {o : Oper} {a : Act} {w : World} {Q : Exit → Act → World → Prop} (hgd : o.guard = none) (ho : o.op = .alloc 32)
    (h : ∀ w1, Blk w1 w.heap.size zFa 32 → w1.heap.size = w.heap.size + 1 → Below w.heap.size w w1 → wpList Try.prog ops Q rest (a.put o.dst (.pointer (some ⟨w.heap.size, 0, none⟩))) w1) : wpList Try.prog ops Q (o :: rest) a w := by
  refine Great.wpList_runTo hgd o.dst rfl (.pointer (some ⟨w.heap.size, 0, none⟩)) (w.alloc (.cells zFa 32)) ?_ (h _ (Blk.new w _ _) (by simp) (below_new w _))
  obtain ⟨dst, op, ty, pos, aft, gd⟩ := o
  simp only at ho
  subst ho
  kernel_rfl
theorem wpList_loadFa {ops : Array Oper} {rest : List Oper} {o : Oper} {a : Act} {w : World} {Q : Exit → Act → World → Prop} (hgd : o.guard = none) (x : Operand) (ho : o.op = .load 32 x)
    (g : Nat) (cs : Array Value) (hx : a.eval x = .pointer (some ⟨g, 0, none⟩)) (hg : Blk w g cs 32) (hs : cs.size = 4)
    (h : wpList Try.prog ops Q rest (a.put o.dst (.agg cs)) w) : wpList Try.prog ops Q (o :: rest) a w :=
  wpList_load_row hgd 32 x ho g hx 32 cs (0, 0) _ hg Try.underlying32 rfl (by rw [hs]; exact sizeFa') h
theorem wpList_storeFa {ops : Array Oper} {rest : List Oper} {o : Oper} {a : Act} {w : World} {Q : Exit → Act → World → Prop} (hgd : o.guard = none) (hd : o.dst = none) (x y : Operand) (ho : o.op = .store 32 x y)
    (g : Nat) (old cs : Array Value) (hx : a.eval x = .pointer (some ⟨g, 0, none⟩)) (hy : a.eval y = .agg cs) (hg : Blk w g old 32) (ho2 : old.size = 4) (hs : cs.size = 4) (h1 : cs.all (·.oneCell') = true)
    (h : ∀ w1, Blk w1 g cs 32 → Only g w w1 → wpList Try.prog ops Q rest a w1) : wpList Try.prog ops Q (o :: rest) a w :=
  wpList_storeG hgd hd 32 x y ho g old cs hx hy hg (by rw [hs]; exact sizeFa') (by rw [ho2, hs]) h1 h
def zIn : Array Value := #[.int .i64 0, .int .i64 0, .int .i64 0, .int .i64 0, .int .i64 0, .int .u32 0]
theorem sizeIn' : (Try.prog.info? 62).map (·.size) = some 6 := by kernel_rfl
theorem wpList_allocIn {ops : Array Oper} {rest : List Oper} {o : Oper} {a : Act} {w : World} {Q : Exit → Act → World → Prop} (hgd : o.guard = none) (ho : o.op = .alloc 62)
    (h : ∀ w1, Blk w1 w.heap.size zIn 62 → w1.heap.size = w.heap.size + 1 → Below w.heap.size w w1 → wpList Try.prog ops Q rest (a.put o.dst (.pointer (some ⟨w.heap.size, 0, none⟩))) w1) : wpList Try.prog ops Q (o :: rest) a w := by
  refine Great.wpList_runTo hgd o.dst rfl (.pointer (some ⟨w.heap.size, 0, none⟩)) (w.alloc (.cells zIn 62)) ?_ (h _ (Blk.new w _ _) (by simp) (below_new w _))
  obtain ⟨dst, op, ty, pos, aft, gd⟩ := o
  simp only at ho
  subst ho
  kernel_rfl
theorem wpList_loadIn {ops : Array Oper} {rest : List Oper} {o : Oper} {a : Act} {w : World} {Q : Exit → Act → World → Prop} (hgd : o.guard = none) (x : Operand) (ho : o.op = .load 62 x)
    (g : Nat) (cs : Array Value) (hx : a.eval x = .pointer (some ⟨g, 0, none⟩)) (hg : Blk w g cs 62) (hs : cs.size = 6)
    (h : wpList Try.prog ops Q rest (a.put o.dst (.agg cs)) w) : wpList Try.prog ops Q (o :: rest) a w :=
  wpList_load_row hgd 62 x ho g hx 62 cs (0, 0) _ hg Try.underlying62 rfl (by rw [hs]; exact sizeIn') h
theorem wpList_storeIn {ops : Array Oper} {rest : List Oper} {o : Oper} {a : Act} {w : World} {Q : Exit → Act → World → Prop} (hgd : o.guard = none) (hd : o.dst = none) (x y : Operand) (ho : o.op = .store 62 x y)
    (g : Nat) (old cs : Array Value) (hx : a.eval x = .pointer (some ⟨g, 0, none⟩)) (hy : a.eval y = .agg cs) (hg : Blk w g old 62) (ho2 : old.size = 6) (hs : cs.size = 6) (h1 : cs.all (·.oneCell') = true)
    (h : ∀ w1, Blk w1 g cs 62 → Only g w w1 → wpList Try.prog ops Q rest a w1) : wpList Try.prog ops Q (o :: rest) a w :=
  wpList_storeG hgd hd 62 x y ho g old cs hx hy hg (by rw [hs]; exact sizeIn') (by rw [ho2, hs]) h1 h
def zTa : Array Value := #[.int .i64 0, .int .i64 0, .int .i64 0, .int .i64 0, .int .i64 0, .int .u32 0, .int .u32 0, .int .u32 0, .int .u32 0, .int .u32 0, .int .u32 0, .int .u32 0, .int .u32 0, .int .u32 0, .int .u32 0, .int .u32 0, .int .u32 0, .int .u32 0, .int .u32 0, .int .u32 0, .int .u32 0, .int .u32 0, .int .u32 0, .int .u32 0, .int .u32 0, .int .u32 0, .int .u32 0, .int .u32 0, .int .u32 0, .int .u32 0, .int .u32 0, .int .u32 0, .int .u32 0, .int .u32 0, .int .u32 0, .int .u32 0, .int .u32 0, .int .u32 0, .int .u32 0, .int .u32 0, .int .u32 0, .int .u32 0, .bool false, .int .u32 0, .int .u32 0, .int .u32 0]
theorem sizeTa' : (Try.prog.info? 64).map (·.size) = some 46 := by kernel_rfl
theorem wpList_allocTa {ops : Array Oper} {rest : List Oper} {o : Oper} {a : Act} {w : World} {Q : Exit → Act → World → Prop} (hgd : o.guard = none) (ho : o.op = .alloc 64)
    (h : ∀ w1, Blk w1 w.heap.size zTa 64 → w1.heap.size = w.heap.size + 1 → Below w.heap.size w w1 → wpList Try.prog ops Q rest (a.put o.dst (.pointer (some ⟨w.heap.size, 0, none⟩))) w1) : wpList Try.prog ops Q (o :: rest) a w := by
  refine Great.wpList_runTo hgd o.dst rfl (.pointer (some ⟨w.heap.size, 0, none⟩)) (w.alloc (.cells zTa 64)) ?_ (h _ (Blk.new w _ _) (by simp) (below_new w _))
  obtain ⟨dst, op, ty, pos, aft, gd⟩ := o
  simp only at ho
  subst ho
  kernel_rfl
theorem wpList_loadTa {ops : Array Oper} {rest : List Oper} {o : Oper} {a : Act} {w : World} {Q : Exit → Act → World → Prop} (hgd : o.guard = none) (x : Operand) (ho : o.op = .load 64 x)
    (g : Nat) (cs : Array Value) (hx : a.eval x = .pointer (some ⟨g, 0, none⟩)) (hg : Blk w g cs 64) (hs : cs.size = 46)
    (h : wpList Try.prog ops Q rest (a.put o.dst (.agg cs)) w) : wpList Try.prog ops Q (o :: rest) a w :=
  wpList_load_row hgd 64 x ho g hx 64 cs (0, 0) _ hg Try.underlying64 rfl (by rw [hs]; exact sizeTa') h
theorem wpList_storeTa {ops : Array Oper} {rest : List Oper} {o : Oper} {a : Act} {w : World} {Q : Exit → Act → World → Prop} (hgd : o.guard = none) (hd : o.dst = none) (x y : Operand) (ho : o.op = .store 64 x y)
    (g : Nat) (old cs : Array Value) (hx : a.eval x = .pointer (some ⟨g, 0, none⟩)) (hy : a.eval y = .agg cs) (hg : Blk w g old 64) (ho2 : old.size = 46) (hs : cs.size = 46) (h1 : cs.all (·.oneCell') = true)
    (h : ∀ w1, Blk w1 g cs 64 → Only g w w1 → wpList Try.prog ops Q rest a w1) : wpList Try.prog ops Q (o :: rest) a w :=
  wpList_storeG hgd hd 64 x y ho g old cs hx hy hg (by rw [hs]; exact sizeTa') (by rw [ho2, hs]) h1 h
end Go.Proofs.Ytobnocioefchlaa
namespace Go.Proofs.Ytobnocioefchlaa
open Go.ChangeShapes Go.WideShapes Go.ChangeAt Go.RowKit
set_option linter.unusedVariables false
theorem wordR_any {c : Nat} (hc : c ∈ formsL) (p op : Int) (o f s t d a m : Nat) (nm : ByteArray) (ho : o < 64) (hf : f < 64) (hf2 : c = 82 → f < 32) (hs : s < 32) (ht : t < 32) (hd : d < 32) (ha : a < 32) (hm : m < 4294967296) (w : World) : Calls Try.prog 60 #[.agg (rwC p (c : Int) (o : Int) (f : Int) nm), .agg (insC op (s : Int) (t : Int) (d : Int) (a : Int) (m : Int))] w fun e w' => e = .returned (.int .u32 ((wordN c o f s t d a m : Nat) : Int)) ∧ Below w.heap.size w w' := by
  simp only [formsL, List.mem_cons, List.not_mem_nil, or_false] at hc
  rcases hc with rfl | rfl | rfl | rfl | rfl | rfl | rfl | rfl | rfl | rfl | rfl | rfl | rfl | rfl | rfl | rfl | rfl | rfl
  · exact word_68 p op o f s t d a m nm ho hf hs ht hd ha hm w
  · exact word_88 p op o f s t d a m nm ho hf hs ht hd ha hm w
  · exact word_89 p op o f s t d a m nm ho hf hs ht hd ha hm w
  · exact word_72 p op o f s t d a m nm ho hf hs ht hd ha hm w
  · exact word_77 p op o f s t d a m nm ho hf hs ht hd ha hm w
  · exact word_70 p op o f s t d a m nm ho hf hs ht hd ha hm w
  · exact word_76 p op o f s t d a m nm ho hf hs ht hd ha hm w
  · exact word_71 p op o f s t d a m nm ho hf hs ht hd ha hm w
  · exact word_84 p op o f s t d a m nm ho hf hs ht hd ha hm w
  · exact word_67 p op o f s t d a m nm ho hf hs ht hd ha hm w
  · exact word_73 p op o f s t d a m nm ho hf hs ht hd ha hm w
  · exact word_80 p op o f s t d a m nm ho hf hs ht hd ha hm w
  · exact word_85 p op o f s t d a m nm ho hf hs ht hd ha hm w
  · exact word_86 p op o f s t d a m nm ho hf hs ht hd ha hm w
  · exact word_66 p op o f s t d a m nm ho hf hs ht hd ha hm w
  · exact word_90 p op o f s t d a m nm ho hf hs ht hd ha hm w
  · exact word_82 p op o f s t d a m nm ho (hf2 rfl) hs ht hd ha hm w
  · exact word_74 p op o f s t d a m nm ho hf hs ht hd ha hm w
/-- The word of a row, with an instruction's fields. -/
def wordK (k s t d a m : Nat) : Nat := wordN (rowR k).2.1 (rowR k).2.2.1 (rowR k).2.2.2 s t d a m
theorem rows_ok : (List.range 69).all (fun k => decide ((rowR k).2.2.1 < 64) && (decide ((rowR k).2.2.2 < 64) && (decide ((rowR k).2.1 ≠ 82) || decide ((rowR k).2.2.2 < 32)))) = true := by kernel_rfl
theorem row_tab2 {k : Nat} (hk : k < 69) (g : Nat) : ∃ c o f : Nat, ∃ nm : ByteArray, c ∈ formsL ∧ o < 64 ∧ f < 64 ∧ (c = 82 → f < 32) ∧ (∀ s t d a m, wordN c o f s t d a m = wordK k s t d a m) ∧ ∀ u : World, Blk u g tabC 120 → u.cell? ⟨g, k * 5, none⟩ = some (.int .i64 ((k : Int) + 1)) ∧ u.cell? ⟨g, k * 5 + 1, none⟩ = some (.int .u8 (c : Int)) ∧ u.cell? ⟨g, k * 5 + 2, none⟩ = some (.int .i64 (o : Int)) ∧ u.cell? ⟨g, k * 5 + 3, none⟩ = some (.int .i64 (f : Int)) ∧ u.cell? ⟨g, k * 5 + 4, none⟩ = some (.string nm) := by
  have h := List.all_eq_true.1 rows_tab k (List.mem_range.2 hk)
  simp only [Bool.and_eq_true, decide_eq_true_eq, List.contains_iff_mem] at h
  obtain ⟨h1, h2, h3, h4, h5⟩ := h
  have h6 := List.all_eq_true.1 rows_ok k (List.mem_range.2 hk)
  simp only [Bool.and_eq_true, Bool.or_eq_true, decide_eq_true_eq] at h6
  obtain ⟨a1, a2, a3⟩ := h6
  refine ⟨_, _, _, (tabL.getD k noRw).name, h5, a1, a2, fun e => ?_, fun _ _ _ _ _ => rfl, fun u hu => ?_⟩
  · rcases a3 with a3 | a3
    · exact absurd e a3
    · exact a3
  · have t := tab_cells hu hk
    have e1 : ((rowR k).1 : Int) = (k : Int) + 1 := by rw [(rows_at hk).2.1]; rfl
    rw [h1, h2, h3, h4, e1] at t
    exact t
theorem sizeRow5 : (Try.prog.info? 119).map (·.size) = some 5 := by kernel_rfl
theorem loadRow5 {u : World} {g j : Nat} {p c o f : Int} {nm : ByteArray} (h : u.cell? ⟨g, j, none⟩ = some (.int .i64 p) ∧ u.cell? ⟨g, j + 1, none⟩ = some (.int .u8 c) ∧ u.cell? ⟨g, j + 2, none⟩ = some (.int .i64 o) ∧ u.cell? ⟨g, j + 3, none⟩ = some (.int .i64 f) ∧ u.cell? ⟨g, j + 4, none⟩ = some (.string nm)) : (loadVar 119 ⟨g, j, none⟩).run Try.prog u = .ok (.agg (rwC p c o f nm)) u := by
  obtain ⟨h0, h1, h2, h3, h4⟩ := h
  have := run_loadVar_mid (P := Try.prog) u g j 119 (rwC p c o f nm).toList _ (fun i v hv => by
    rcases i with _ | _ | _ | _ | _ | i
    · obtain rfl := Option.some.inj hv; exact h0
    · obtain rfl := Option.some.inj hv; exact h1
    · obtain rfl := Option.some.inj hv; exact h2
    · obtain rfl := Option.some.inj hv; exact h3
    · obtain rfl := Option.some.inj hv; exact h4
    · cases hv) Try.underlying119 rfl sizeRow5
  exact this
theorem eqFieldsI (w : World) (d : Nat) (xs ys : Array Value) : ∀ fs : List Field, (∀ f ∈ fs, f.name ≠ "_" ∧ Try.prog.plainKey f.type = true ∧ ∃ k a b, Try.prog.underlying f.type = some (.int k) ∧ xs[f.offset]? = some (.int k a) ∧ ys[f.offset]? = some (.int k b)) → ∃ r : Bool, (Op.eqFields (d + 1) xs ys fs).run Try.prog w = .ok r w
  | [], _ => ⟨true, by simp [Op.eqFields]⟩
  | f :: fs, h => by
    obtain ⟨hn, hp, k, a, b, hu, hx, hy⟩ := h f (List.mem_cons_self ..)
    obtain ⟨r, hr⟩ := eqFieldsI w d xs ys fs (fun g hg => h g (List.mem_cons_of_mem _ hg))
    have p1 := run_part_plain (P := Try.prog) w hp hx
    have p2 := run_part_plain (P := Try.prog) w hp hy
    have p3 := run_equalIn_int (P := Try.prog) w d f.type k k a b hu
    simp only [Op.eqFields, hn, ne_eq, not_false_eq_true, if_true, Sem.run_bind, p1, p2, p3, Result.andThen_ok]
    cases hb : (a == b) with
    | false => exact ⟨false, by simp⟩
    | true => exact ⟨r, by simpa using hr⟩
section
variable {ρ : Operand → Value} {o : Oper}
theorem exec_indexT {x y : Operand} {g k : Nat} (hk : k < 69) (hop : o.op = .indexAddr 120 x y) (hx : ρ x = .pointer (some ⟨g, 0, none⟩)) (hy : ρ y = .int .i64 (k : Int)) (w : World) : (execOp ρ o).run Try.prog w = .ok (.value (.pointer (some ⟨g, k * 5, none⟩))) w := by
  have h1 : (k : Int) < ((69 : Nat) : Int) := by omega
  have hz : (sizeOf (Try.prog.elem 120)).run Try.prog w = .ok 5 w := by kernel_rfl
  have ha : Try.prog.arrayLen 120 = 69 := by kernel_rfl
  unfold execOp
  rw [hop]
  simp [hx, hy, Instr.indexAt, run_underlying Try.underlying120, sizeOf, typeInfo, go_sem, Addr.add_lit, hk]
  have hs := sizeRow5
  cases hq : Try.prog.info? 119 with
  | none => simp [hq] at hs
  | some i =>
    have hs2 : i.size = 5 := by simpa [hq] using hs
    simp [hs2]
theorem exec_eqlI (a0 a1 a2 a3 a4 a5 b0 b1 b2 b3 b4 b5 : Int) (w : World) : ∃ b, ∀ (ρ : Operand → Value) (o : Oper) (x y : Operand), o.op = .binOp .eql 62 x y 62 → ρ x = .agg (insC a0 a1 a2 a3 a4 a5) → ρ y = .agg (insC b0 b1 b2 b3 b4 b5) → (execOp ρ o).run Try.prog w = .ok (.value (.bool b)) w := by
  have hf : Try.prog.underlying 62 = some (.struct (Try.prog.fieldsOf 62)) := by kernel_rfl
  have hh : Try.prog.stoodInHeld 62 = false := by kernel_rfl
  obtain ⟨r, hr⟩ := eqFieldsI w 9998 (insC a0 a1 a2 a3 a4 a5) (insC b0 b1 b2 b3 b4 b5) (Try.prog.fieldsOf 62).toList (by
    have h : (Try.prog.fieldsOf 62).toList.all (fun f => decide (f.name ≠ "_") && (Try.prog.plainKey f.type && ((f.type == 3 && decide (f.offset < 5)) || (f.type == 23 && f.offset == 5)))) = true := by kernel_rfl
    intro f hfm
    have h1 := List.all_eq_true.1 h f hfm
    simp only [Bool.and_eq_true, Bool.or_eq_true, decide_eq_true_eq, beq_iff_eq] at h1
    obtain ⟨h1, h2, h3⟩ := h1
    refine ⟨h1, h2, ?_⟩
    rcases h3 with ⟨h3, h4⟩ | ⟨h3, h4⟩
    · rw [h3]
      rcases (show f.offset = 0 ∨ f.offset = 1 ∨ f.offset = 2 ∨ f.offset = 3 ∨ f.offset = 4 by omega) with e | e | e | e | e <;> rw [e] <;> exact ⟨_, _, _, Try.underlying3, rfl, rfl⟩
    · rw [h3, h4]
      exact ⟨_, _, _, Try.underlying23, rfl, rfl⟩)
  refine ⟨r, fun ρ o x y hop hx hy => ?_⟩
  have hg : (eqGuard .eql 62 x y (.agg (insC a0 a1 a2 a3 a4 a5)) (.agg (insC b0 b1 b2 b3 b4 b5))).run Try.prog w = .ok () w := run_eqGuard_agg (P := Try.prog) w .eql 62 x y _ _ (by kernel_rfl)
  unfold execOp
  simp only [hop, hx, hy, Sem.run_bind, hg, run_eql_struct, run_equalIn_struct (P := Try.prog) w 9999 62 _ _ hf hh, hr, Result.andThen_ok, Sem.run_pure]
end
theorem loadI6 {w : World} {b : Nat} {a0 a1 a2 a3 a4 a5 : Int} (h : Blk w b (insC a0 a1 a2 a3 a4 a5) 62) : (loadVar 62 ⟨b, 0, none⟩).run Try.prog w = .ok (.agg (insC a0 a1 a2 a3 a4 a5)) w :=
  run_loadVar_row w b 62 62 _ (0, 0) _ h Try.underlying62 rfl sizeIn'
/-- Encode's world: its instruction, the table. -/
structure EW (w : World) (n g : Nat) (I : Array Value) (wr : World) : Prop where
  bel : Below n w wr
  ins : Blk wr n I 62
  tab : Blk wr g tabC 120
theorem EW.later {w : World} {n g : Nat} {I : Array Value} {wr w' : World} (h : EW w n g I wr) (hb : Below wr.heap.size wr w') : EW w n g I w' := ⟨h.bel.trans (hb.mono (Nat.le_of_lt h.ins.lt)), h.ins.later hb, h.tab.later hb⟩
/-- What the slots of the region hold, whatever the order. -/
def phiEa (n g q : Nat) (c oo f x0 : Nat) (nm : ByteArray) (op s t d a m : Int) : Nat → Value → World → Prop
  | 0, x, _ => x = .int .i64 (q : Int)
  | 1, x, _ => x = .pointer (some ⟨g, q * 5, none⟩)
  | 2, x, _ => x = .agg (rwC ((q : Int) + 1) (c : Int) (oo : Int) (f : Int) nm)
  | 3, x, _ => x = .agg (insC op s t d a m)
  | 4, x, _ => x = .int .u32 (x0 : Int)
  | _ + 5, _, _ => True
theorem phiEa_mono (n g q : Nat) (c oo f x0 : Nat) (nm : ByteArray) (op s t d a m : Int) : ∀ i x w w', phiEa n g q c oo f x0 nm op s t d a m i x w → Below w.heap.size w w' → phiEa n g q c oo f x0 nm op s t d a m i x w'
  | 0, _, _, _, h, _ => h
  | 1, _, _, _, h, _ => h
  | 2, _, _, _, h, _ => h
  | 3, _, _, _, h, _ => h
  | 4, _, _, _, h, _ => h
  | _ + 5, _, _, _, _, _ => trivial
theorem lstEa : ∀ xs : List Value, xs.length = 5 → ∃ x0 x1 x2 x3 x4, xs = [x0, x1, x2, x3, x4]
  | [x0, x1, x2, x3, x4], _ => ⟨_, _, _, _, _, rfl⟩
/-- What the slots of the region hold, whatever the order. -/
def phiEb (n x0 : Nat) (op s t d a m : Int) : Nat → Value → World → Prop
  | 0, x, _ => x = .int .u32 (x0 : Int)
  | 1, x, _ => x = .int .u32 (x0 : Int)
  | 2, x, _ => x = .agg (insT ((insR x0).op : Int) (insR x0).tk)
  | 3, x, _ => x = .agg (insC op s t d a m)
  | 4, x, w => ∃ b, x = .bool b
  | 5, x, _ => x = .int .u32 (x0 : Int)
  | _ + 6, _, _ => True
theorem phiEb_mono (n x0 : Nat) (op s t d a m : Int) : ∀ i x w w', phiEb n x0 op s t d a m i x w → Below w.heap.size w w' → phiEb n x0 op s t d a m i x w'
  | 0, _, _, _, h, _ => h
  | 1, _, _, _, h, _ => h
  | 2, _, _, _, h, _ => h
  | 3, _, _, _, h, _ => h
  | 4, x, w, w', h, hb => h
  | 5, _, _, _, h, _ => h
  | _ + 6, _, _, _, _, _ => trivial
theorem lstEb : ∀ xs : List Value, xs.length = 6 → ∃ x0 x1 x2 x3 x4 x5, xs = [x0, x1, x2, x3, x4, x5]
  | [x0, x1, x2, x3, x4, x5], _ => ⟨_, _, _, _, _, _, rfl⟩
set_option maxRecDepth 20000 in
set_option maxHeartbeats 4000000 in
theorem encode_any (kk s t d a m : Nat) (hk : kk < 69) (hs : s < 32) (ht : t < 32) (hd : d < 32) (ha : a < 32) (hm : m < 4294967296) (hx : wordK kk s t d a m < 4294967296) (w : World) : Calls Try.prog 32 #[.agg (insC ((kk : Int) + 1) (s : Int) (t : Int) (d : Int) (a : Int) (m : Int))] w fun e w' => (∃ b, e = .returned (.tuple #[.int .u32 ((wordK kk s t d a m : Nat) : Int), .bool b])) ∧ Below w.heap.size w w' := by
  obtain ⟨n, hn⟩ : ∃ n, w.heap.size = n := ⟨_, rfl⟩
  obtain ⟨I, hI⟩ : ∃ I, insC ((kk : Int) + 1) (s : Int) (t : Int) (d : Int) (a : Int) (m : Int) = I := ⟨_, rfl⟩
  rw [hI]
  have HI := hidden hI
  clear hI
  go_enter Try.func32, Try.ntmps32
  go_wp2_with (first
    | (refine wpList_boxG rfl 62 _ rfl I rfl ?_; rintro w1 k1 s1 b1; rw [hn] at k1 s1 b1 ⊢; have K1 := hidden k1; have S1 := hidden s1; have B1 := hidden b1; clear k1 s1 b1)
    | (go_at_call 59; refine (table_any _).mono ?_; rintro e w2 ⟨rfl, b2⟩; have K2 := hidden (K1.out.later b2); have B2 := hidden (B1.out.trans (b2.mono (by have := S1.out; omega))); have S2 : Hid (n + 1 ≤ w2.heap.size) := hidden (by have := b2.size; have := S1.out; omega); clear b2 K1 B1)
    | (refine wpList_allocT rfl rfl ?_; rintro w3 k3 b3; obtain ⟨g, hg⟩ : ∃ g, w2.heap.size = g := ⟨_, rfl⟩; have K3 := hidden (K2.out.later b3); have B3 := hidden (B2.out.trans (b3.mono (by have := S2.out; omega))); rw [hg] at k3 S2 ⊢; have T3 := hidden k3; clear k3 b3 K2 B2)
    | (refine wpList_storeT rfl rfl g rfl rfl T3.out ?_; rintro w4 k4 b4; have P4 := hidden (EW.mk (b4 n w B3.out (by have := S2.out; omega)) (((b4 g w3 (Below.refl _ _) (Nat.le_refl _)).block n (by have := S2.out; omega)).trans K3.out) k4); clear k4 b4 K3 B3 T3))
  go_loopw [5] (fun x5 wr => ∃ (q : Nat), q ≤ kk ∧ x5 = .int .i64 (q : Int) ∧ EW w n g I wr) (fun x5 _ => 69 - (intOf x5).toNat)
  case atStart => exact ⟨0, Nat.zero_le _, rfl, P4.out⟩
  case round =>
    clear P4
    obtain ⟨q, hq0, rfl, hP⟩ := hrel
    have HP := hidden hP
    clear hP
    have hq69 : q < 69 := by omega
    have hlt2 : (q : Int) < 69 := by omega
    have hge : (0 : Int) ≤ (q : Int) := by omega
    obtain ⟨c, oo, f, nm, hc, ho, hf, hf2, hw, hrow⟩ := row_tab2 hq69 g
    obtain ⟨c0, c1, c2, c3, c4⟩ := hrow wr HP.out.tab
    have HR := hidden hrow
    have HC := hidden hc
    have HF2 := hidden hf2
    have HW := hidden hw
    have ci : wr.cell? ⟨n, 0, none⟩ = some (.int .i64 ((kk : Int) + 1)) := by rw [← HI.out] at HP; exact HP.out.ins.cell rfl
    clear hrow hc hf2 hw
    by_cases he : q = kk
    · subst he
      have e1 : ((q : Int) + 1 == (q : Int) + 1) = true := beq_self_eq_true _
      obtain ⟨x, hxx⟩ : ∃ x, wordK q s t d a m = x := ⟨_, rfl⟩
      have HWDh := hidden (fun u => by have h := wordR_any HC.out ((q : Int) + 1) ((q : Int) + 1) oo f s t d a m nm ho hf HF2.out hs ht hd ha hm u; rw [HW.out, hxx] at h; exact h)
      rw [hxx] at hx
      have HX := hidden hx
      have HXX := hidden hxx
      clear hxx hx
      go_upto_region 6 with (first | (go_quiet (fail)))
      refine wp_region_head later_below 5 [19, 20, 21, 22, 23] (phiEa n g q c oo f x nm ((q : Int) + 1) (s : Int) (t : Int) (d : Int) (a : Int) (m : Int)) (by kernel_rfl) (by kernel_rfl) rfl (phiEa_mono n g q c oo f x nm ((q : Int) + 1) (s : Int) (t : Int) (d : Int) (a : Int) (m : Int)) ?_ ?_
      · intro j hj xs w3 hxs hR hpre
        obtain ⟨x0, x1, x2, x3, x4, rfl⟩ := lstEa xs hxs
        have hE : EW w n g (insC ((q : Int) + 1) (s : Int) (t : Int) (d : Int) (a : Int) (m : Int)) w3 := by rw [HI.out]; exact (HP.out.later (below_drewN (Below.refl _ wr) nq)).later hR
        have hq := hq69
        have hrow := HR.out
        have HWD := HWDh.out
        rcases (show j = 0 ∨ j = 1 ∨ j = 2 ∨ j = 3 ∨ j = 4 by omega) with rfl | rfl | rfl | rfl | rfl
        · exact wpOp_run (.int .i64 (q : Int)) rfl (by kernel_rfl) (exec_move rfl (by kernel_rfl) w3) ⟨_, by kernel_rfl, rfl, Below.refl _ _⟩
        · have e0 : x0 = .int .i64 (q : Int) := hpre 0 (by kernel_rfl)
          subst e0
          exact wpOp_run (.pointer (some ⟨g, q * 5, none⟩)) rfl (by kernel_rfl) (exec_indexT hq rfl (by kernel_rfl) (by kernel_rfl) w3) ⟨_, by kernel_rfl, rfl, Below.refl _ _⟩
        · have e1 : x1 = .pointer (some ⟨g, q * 5, none⟩) := hpre 1 (by kernel_rfl)
          subst e1
          exact wpOp_run (.agg (rwC ((q : Int) + 1) (c : Int) (oo : Int) (f : Int) nm)) rfl (by kernel_rfl) (exec_load 119 rfl (by kernel_rfl) w3 (loadRow5 (hrow w3 hE.tab))) ⟨_, by kernel_rfl, rfl, Below.refl _ _⟩
        · exact wpOp_run (.agg (insC ((q : Int) + 1) s t d a m)) rfl (by kernel_rfl) (exec_load 62 rfl (by kernel_rfl) w3 (loadI6 hE.ins)) ⟨_, by kernel_rfl, rfl, Below.refl _ _⟩
        · have e2 : x2 = .agg (rwC ((q : Int) + 1) (c : Int) (oo : Int) (f : Int) nm) := hpre 2 (by kernel_rfl)
          subst e2
          have e3 : x3 = .agg (insC ((q : Int) + 1) s t d a m) := hpre 3 (by kernel_rfl)
          subst e3
          refine wpOp_callR (R := fun u w4 => u = .int .u32 (x : Int) ∧ Below w3.heap.size w3 w4) 60 #[.agg (rwC ((q : Int) + 1) (c : Int) (oo : Int) (f : Int) nm), .agg (insC ((q : Int) + 1) s t d a m)] rfl (by kernel_rfl) (by kernel_rfl) ((HWD w3).mono fun e w4 ⟨he, hb⟩ => ⟨_, he, rfl, hb⟩) ?_
          rintro _ w4 ⟨rfl, hb⟩
          exact ⟨_, by kernel_rfl, rfl, hb⟩
      · intro xs w3 hxs hR hall
        obtain ⟨x0, x1, x2, x3, x4, rfl⟩ := lstEa xs hxs
        have e4 : x4 = .int .u32 (x : Int) := hall 4 (by omega)
        subst e4
        have HR1 := hidden hR
        clear hall hR hxs
        simp only [slotsOn, putAll, List.set_cons_succ, List.set_cons_zero, List.drop_succ_cons, List.drop_zero]
        have HP2 := hidden (HP.out.later ((below_drewN (Below.refl _ wr) nq).trans (HR1.out.mono (Nat.le_refl _))))
        clear HP c0 c1 c2 c3 c4 ci
        go_upto_region 7 with fail
        refine wp_region_head later_below 6 [24, 25, 26, 27, 28, 2] (phiEb n x ((q : Int) + 1) (s : Int) (t : Int) (d : Int) (a : Int) (m : Int)) (by kernel_rfl) (by kernel_rfl) rfl (phiEb_mono n x ((q : Int) + 1) (s : Int) (t : Int) (d : Int) (a : Int) (m : Int)) ?_ ?_
        · intro j hj xs w3 hxs hR hpre
          obtain ⟨x0, x1, x2, x3, x4, x5, rfl⟩ := lstEb xs hxs
          have hE : EW w n g (insC ((q : Int) + 1) (s : Int) (t : Int) (d : Int) (a : Int) (m : Int)) w3 := by rw [HI.out]; exact HP2.out.later hR
          have hx := HX.out
          rcases (show j = 0 ∨ j = 1 ∨ j = 2 ∨ j = 3 ∨ j = 4 ∨ j = 5 by omega) with rfl | rfl | rfl | rfl | rfl | rfl
          · exact wpOp_run (.int .u32 (x : Int)) rfl (by kernel_rfl) (exec_move rfl (by kernel_rfl) w3) ⟨_, by kernel_rfl, rfl, Below.refl _ _⟩
          · exact wpOp_run (.int .u32 (x : Int)) rfl (by kernel_rfl) (exec_move rfl (by kernel_rfl) w3) ⟨_, by kernel_rfl, rfl, Below.refl _ _⟩
          · have e1 : x1 = .int .u32 (x : Int) := hpre 1 (by kernel_rfl)
            subst e1
            refine wpOp_callR (R := fun u w4 => u = .agg (insT ((insR x).op : Int) (insR x).tk) ∧ Below w3.heap.size w3 w4) 61 #[.int .u32 (x : Int)] rfl (by kernel_rfl) (by kernel_rfl) ((decx_any x hx w3).mono fun e w4 ⟨he, hb⟩ => ⟨_, he, rfl, hb⟩) ?_
            rintro _ w4 ⟨rfl, hb⟩
            exact ⟨_, by kernel_rfl, rfl, hb⟩
          · exact wpOp_run (.agg (insC ((q : Int) + 1) s t d a m)) rfl (by kernel_rfl) (exec_load 62 rfl (by kernel_rfl) w3 (loadI6 hE.ins)) ⟨_, by kernel_rfl, rfl, Below.refl _ _⟩
          · have e2 : x2 = .agg (insT ((insR x).op : Int) (insR x).tk) := hpre 2 (by kernel_rfl)
            subst e2
            have e3 : x3 = .agg (insC ((q : Int) + 1) s t d a m) := hpre 3 (by kernel_rfl)
            subst e3
            obtain ⟨b, hb⟩ := exec_eqlI ((insR x).op : Int) ((insR x).tk.s : Int) ((insR x).tk.t : Int) ((insR x).tk.d : Int) ((insR x).tk.a : Int) ((insR x).tk.imm : Int) ((q : Int) + 1) s t d a m w3
            exact wpOp_run (.bool b) rfl (by kernel_rfl) (hb _ _ _ _ rfl (by kernel_rfl) (by kernel_rfl)) ⟨_, by kernel_rfl, ⟨b, rfl⟩, Below.refl _ _⟩
          · have e0 : x0 = .int .u32 (x : Int) := hpre 0 (by kernel_rfl)
            subst e0
            exact wpOp_run (.int .u32 (x : Int)) rfl (by kernel_rfl) (by kernel_rfl) ⟨_, by kernel_rfl, rfl, Below.refl _ _⟩
        · intro xs w3 hxs hR hall
          obtain ⟨x0, x1, x2, x3, x4, x5, rfl⟩ := lstEb xs hxs
          have e0 : x0 = .int .u32 (x : Int) := hall 0 (by omega)
          subst e0
          have f4 : ∃ b, x4 = .bool b := hall 4 (by omega)
          obtain ⟨b4, e4⟩ := f4
          subst e4
          have e5 : x5 = .int .u32 (x : Int) := hall 5 (by omega)
          subst e5
          have HR2 := hidden hR
          clear hall hR hxs
          simp only [slotsOn, putAll, List.set_cons_succ, List.set_cons_zero, List.drop_succ_cons, List.drop_zero]
          go_wp2
          go_ret2
          exact ⟨⟨b4, by rw [HXX.out]; rfl⟩, by rw [hn]; exact (HP2.out.later HR2.out).bel⟩

    · have e1 : ((q : Int) + 1 == (kk : Int) + 1) = false := beq_eq_false_iff_ne.2 (by omega)
      go_upto_region 5 with fail
      go_quiet (fail)
      go_wp2
      have HQ := hidden (HP.out.later (below_drewN (Below.refl _ wr) nq))
      go_roundw
      case rel => first | exact ⟨q + 1, by omega, by simp, HQ.out⟩ | ((repeat apply Exists.intro); exact ⟨⟨q + 1, by omega, by simp, HQ.out⟩, rfl⟩)
      case measure => simp [intOf]; omega
end Go.Proofs.Ytobnocioefchlaa
namespace Go.Proofs.Ytobnocioefchlaa
open Go.ChangeShapes Go.WideShapes Go.ChangeAt Go.RowKit
set_option linter.unusedVariables false
-- MISSING info_parts
/-- Nothing that was there below base has turned, and of what is no row of bytes nothing. -/
structure Grew (base : Nat) (w w' : World) : Prop where
  below : Below base w w'
  keep : ∀ k cs T, T ≠ 5 → Blk w k cs T → Blk w' k cs T
theorem Grew.refl (base : Nat) (w : World) : Grew base w w := ⟨Below.refl _ _, fun _ _ _ _ h => h⟩
theorem Grew.trans {base : Nat} {u v w : World} (h : Grew base u v) (k : Grew base v w) : Grew base u w := ⟨h.below.trans k.below, fun i cs T hT hb => k.keep i cs T hT (h.keep i cs T hT hb)⟩
theorem Grew.of {base : Nat} {w w' : World} (h : Below w.heap.size w w') (hb : base ≤ w.heap.size) : Grew base w w' := ⟨h.mono hb, fun _ _ _ _ hk => hk.later h⟩
theorem Grew.size {base : Nat} {w w' : World} (h : Grew base w w') : w.heap.size ≤ w'.heap.size := h.below.size
/-- A row of the bytes l, of the call's own. -/
def OutB (w : World) (base : Nat) (v : Value) (l : List UInt8) : Prop := w.ownsRow base 5 1 v l.length (cellsU l)
theorem OutB.later {w w' : World} {base : Nat} {v : Value} {l : List UInt8} (h : OutB w base v l) (hb : Below w.heap.size w w') : OutB w' base v l := by
  refine ⟨h.1, ?_⟩
  rcases h.2 with h | ⟨g, cap, cur, h1, h2, h3, h4⟩
  · exact .inl h
  · exact .inr ⟨g, cap, cur, h1, h2, (hb.block g (Array.getElem?_eq_some_iff.1 h3).1).trans h3, h4⟩
theorem OutB.mono {w : World} {base base' : Nat} {v : Value} {l : List UInt8} (h : OutB w base v l) (hb : base' ≤ base) : OutB w base' v l := by
  refine ⟨h.1, ?_⟩
  rcases h.2 with h | ⟨g, cap, cur, h1, h2, h3⟩
  · exact .inl h
  · exact .inr ⟨g, cap, cur, h1, Nat.le_trans hb h2, h3⟩
theorem OutB.row {w : World} {base : Nat} {v : Value} {l : List UInt8} (h : OutB w base v l) : ∃ ao cap, v = .slice ao l.length cap ∧ Row w ao l cap := row_of_own rfl h
theorem grew_append {w w' : World} {base : Nat} {v : Value} {l : List UInt8} (h : OutB w base v l) (hg : w.grownBy w' v.ownBlock) (hb : base ≤ w.heap.size) : Grew base w w' := by
  refine ⟨(Below.refl base w).grown hg hb fun k hk => (h.lt k hk).1, fun k cs T hT hk => ?_⟩
  refine (hg.block k hk.lt fun e => ?_).trans hk
  rcases h.2 with ⟨rfl, _⟩ | ⟨g, cap, cur, rfl, _, h3, _⟩
  · simp [Value.ownBlock] at e
  · simp only [Value.ownBlock, Option.some.injEq] at e
    subst e
    have := hk.symm.trans h3
    simp at this
    exact hT this.2
/-- Bytes put behind a row of the call's own. -/
theorem run_more {w : World} {base : Nat} {v : Value} {l : List UInt8} (h : OutB w base v l) (hb : base ≤ w.heap.size) (ad : Addr) (c : Nat) (m : List UInt8) (hm : ∀ j u, (cellsU m)[j]? = some u → w.cell? (ad.add j) = some u) (hlen : l.length + m.length ≤ 1000000) :
    ∃ v' w', (Builtin.append_ #[40, 40] 40 #[v, .slice (some ad) m.length c]).run Try.prog w = .ok v' w' ∧ OutB w' base v' (l ++ m) ∧ Grew base w w' := by
  obtain ⟨i0, hi, hz0, hz1, hz2⟩ := info_parts info5
  obtain ⟨v', w', hr, h1, h2, _, _⟩ := run_append_own_at (P := Try.prog) w base 40 40 5 i0 (.int .u8 0) 1 1 Try.underlying40 hi hz0 hz1 hz2 rfl (by decide) v l.length (cellsU l) h ad m.length c (cellsU m) (by simp [cellsU]) hm (cellsU_one _) (by unfold maxLen; omega) (by omega) hb
  refine ⟨v', w', hr, ?_, grew_append h h2 hb⟩
  rw [← cellsU_append] at h1
  unfold OutB
  rw [List.length_append]
  exact h1
end Go.Proofs.Ytobnocioefchlaa
