/- What pages of parts may be; one part as it lies there. -/
import Derived.Test.YtodoenimlhldjaaQMAL
import Derived.Test.YtodoenimlhldjaaQMOps
namespace Go.Proofs.Ytodoenimlhldjaa
open Go.ChangeShapes Go.WideShapes Go.ChangeAt Go.RowKit
set_option linter.unusedVariables false
theorem perm_abs (s : MS) (a : Nat) : s.perm a = match s.abs (pageOf a) with | some x => x.2.1 | none => 0 := by
  unfold MS.perm MS.abs
  split <;> rfl
theorem bits_same (x : Int) (h0 : 0 ≤ x) (h1 : x < 8) : bits .or .i64 x x = x := by
  rcases (show x = 0 ∨ x = 1 ∨ x = 2 ∨ x = 3 ∨ x = 4 ∨ x = 5 ∨ x = 6 ∨ x = 7 by omega) with rfl | rfl | rfl | rfl | rfl | rfl | rfl | rfl <;> decide
theorem orP_same (z : Int) : orP (z % 8) z = z % 8 := by
  rw [← orP_small (z % 8) z (by omega) (by omega)]
  exact bits_same _ (by omega) (by omega)
/-- All pages may be the same. -/
def AllP (f : AM) (z : Int) : Prop := ∀ q x, f q = some x → x.2.1 = z % 8
theorem allP_none (z : Int) : AllP (fun _ => none) z := fun _ _ h => by cases h
theorem allP_amap {f : AM} {z : Int} (h : AllP f z) (a : Nat) : AllP (amap f a z) z := by
  intro q x hx
  unfold amap at hx
  by_cases e : q = pageOf a
  · rw [if_pos e] at hx
    cases hq : f q with
    | none =>
      rw [hq] at hx
      have := Option.some.inj hx
      rw [← this]
    | some y =>
      obtain ⟨l, p, o⟩ := y
      rw [hq] at hx
      have hp : p = z % 8 := h q _ hq
      have := Option.some.inj hx
      rw [← this]
      show orP p z = _
      rw [hp]
      exact orP_same z
  · rw [if_neg e] at hx
    exact h q x hx
theorem allP_apoke {f : AM} {z : Int} (h : AllP f z) (a : Nat) (v : UInt8) : AllP (apoke f a v) z := by
  intro q x hx
  unfold apoke at hx
  by_cases e : q = pageOf a
  · rw [if_pos e] at hx
    cases hq : f q with
    | none => rw [hq] at hx; cases hx
    | some y =>
      rw [hq] at hx
      have := Option.some.inj hx
      rw [← this]
      exact h q y hq
  · rw [if_neg e] at hx
    exact h q x hx
theorem allP_awatch {f : AM} {z : Int} (h : AllP f z) (a : Nat) (b : Bool) : AllP (awatch f a b) z := by
  intro q x hx
  unfold awatch at hx
  by_cases e : q = pageOf a
  · rw [if_pos e] at hx
    cases hq : f q with
    | none => rw [hq] at hx; cases hx
    | some y =>
      rw [hq] at hx
      have := Option.some.inj hx
      rw [← this]
      exact h q y hq
  · rw [if_neg e] at hx
    exact h q x hx
theorem allP_maps {f : AM} (p : Part4) (h : AllP f p.perm) : ∀ k, AllP (partMaps f p k) p.perm
  | 0 => h
  | k + 1 => allP_amap (allP_maps p h k) _
theorem allP_pokes {f : AM} {z : Int} (h : AllP f z) (p : Part4) : ∀ k, AllP (partPokes f p k) z
  | 0 => h
  | k + 1 => allP_apoke (allP_pokes h p k) _ _
theorem one_allP (p : Part4) : AllP (memOf [p]) p.perm := allP_awatch (allP_pokes (allP_maps p (allP_none _) _) p _) _ _
theorem two_allP (p q : Part4) (h : q.perm = p.perm) : AllP (memOf [p, q]) p.perm := by
  refine allP_awatch (allP_awatch ?_ _ _) _ _
  refine allP_pokes ?_ _ _
  rw [← h]
  refine allP_maps q ?_ _
  rw [h]
  exact allP_pokes (allP_maps p (allP_none _) _) p _
theorem perm_all {s : MS} {z : Int} (h : AllP s.abs z) (a : Nat) (hs : (s.abs (pageOf a)).isSome = true) : s.perm a = z % 8 := by
  rw [perm_abs]
  cases hq : s.abs (pageOf a) with
  | none => rw [hq] at hs; cases hs
  | some x => exact h _ _ hq
theorem perm_none {s : MS} (a : Nat) (hs : s.abs (pageOf a) = none) : s.perm a = 0 := by
  rw [perm_abs, hs]
/-- A part without bytes has one page. -/
theorem bare_some (p : Part4) (hl : p.data = []) (hat : p.at_ < 4294967296) (q : Nat) : (memOf [p] q).isSome = true ↔ q = pageOf p.at_ := by
  show (awatch (partDone (fun _ => none) p) p.at_ p.on q).isSome = true ↔ _
  rw [some_awatch]
  unfold partDone
  rw [some_pokes, hl, show max ([] : List UInt8).length 1 = 1 from rfl, some_maps]
  have e : wrapAt p.at_ 0 = p.at_ := by unfold wrapAt; omega
  constructor
  · rintro ⟨j, hj, e2⟩
    obtain rfl : j = 0 := by omega
    rw [e2, e]
  · intro h
    exact ⟨0, by omega, by rw [h, e]⟩
abbrev partC (a : Nat) (ao : Option Addr) (n cap : Nat) (z : Int) (on : Bool) : Array Value := #[.int .u32 (a : Int), .slice ao n cap, .int .i64 z, .bool on]
theorem buildPart (a : Int) (ao : Option Addr) (n cap : Nat) (z : Int) (w : World) : (Instr.build 52 #[(0, .int .u32 a), (1, .slice ao n cap), (2, .int .i64 z)]).run Try.prog w = .ok (.agg #[.int .u32 a, .slice ao n cap, .int .i64 z, .bool false]) w := by kernel_rfl
/-- One part, as it lies there. -/
theorem piece_new (w : World) (a : Nat) (ha : a < 4294967296) (ao : Option Addr) (l : List UInt8) (cap : Nat) (z : Int) (on : Bool) (hr : Row w ao l cap) : Pieces (w.alloc (.cells (partC a ao l.length cap z on) 52)) (some ⟨w.heap.size, 0, none⟩) [⟨a, l, z, on, ao, cap⟩] := by
  have hb := heap_alloc_new w (.cells (partC a ao l.length cap z on) 52)
  refine .inr ⟨w.heap.size, 0, rfl, (Array.getElem?_eq_some_iff.1 hb).1, fun j hj => ?_⟩
  obtain rfl : j = 0 := by simpa using hj
  refine ⟨?_, ?_, ?_, ?_, hr.later ((Below.refl _ w).alloc (Nat.le_refl _) _), ha⟩
  · rw [cell_of_row _ _ _ _ _ _ hb]; rfl
  · rw [cell_of_row _ _ _ _ _ _ hb]; rfl
  · rw [cell_of_row _ _ _ _ _ _ hb]; rfl
  · rw [cell_of_row _ _ _ _ _ _ hb]; rfl
theorem row_new (w : World) (l : List UInt8) (hl : l ≠ []) (hm : l.length ≤ 16384) : Row (w.alloc (.cells (cellsU l).toArray 5)) (some ⟨w.heap.size, 0, none⟩) l l.length :=
  Brow.row (heap_alloc_new w _) hm
end Go.Proofs.Ytodoenimlhldjaa
