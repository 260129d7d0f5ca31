/- A file in a memory, over plain lists; and the steps towards it. -/
import Derived.Test.YtpknppicamefgaaPStates
namespace Go.Proofs.Ytpknppicamefgaa
open Go.ChangeShapes Go.WideShapes Go.ChangeAt Go.RowKit
set_option linter.unusedVariables false
def segPg (g : Sg) : List Nat := pgs g.at_ (cntP g.at_ g.size)
def segLay (f : AM) (g : Sg) : AM := layAm f g.perm (segPg g)
def segAm (f : AM) (g : Sg) : AM := fillAm (segLay f g) g.at_ g.data g.data.length
def loadKs (most : Nat) : List Nat → List Sg → Option (List Nat)
  | ks, [] => some ks
  | ks, g :: l => (layKs most ks (segPg g)).bind fun k => loadKs most k l
theorem loadKs_append (most : Nat) (m : List Sg) : ∀ (l : List Sg) (ks : List Nat), loadKs most ks (l ++ m) = (loadKs most ks l).bind fun k => loadKs most k m := by
  intro l
  induction l with
  | nil => intro ks; rfl
  | cons g l ih =>
    intro ks
    simp only [List.cons_append, loadKs]
    cases layKs most ks (segPg g) with
    | none => rfl
    | some k => exact ih k
theorem loadKs_one (most : Nat) (ks : List Nat) (g : Sg) : loadKs most ks [g] = layKs most ks (segPg g) := by
  simp only [loadKs]
  cases layKs most ks (segPg g) <;> rfl
def loadAm (l : List Sg) : AM := l.foldl segAm fun _ => none
theorem loadAm_snoc (l : List Sg) (g : Sg) : loadAm (l ++ [g]) = segAm (loadAm l) g := by simp [loadAm]
def stackPg : List Nat := pgs 2147479040 (cntP 2147479040 512)
def allKs (most : Nat) (l : List Sg) : Option (List Nat) := (loadKs most [] l).bind fun k => layKs most k stackPg
def allAm (l : List Sg) : AM := layAm (loadAm l) 6 stackPg
/-- Nothing is watched. -/
def OffA (f : AM) : Prop := ∀ k x, f k = some x → x.2.2 = false
theorem offA_amap {f : AM} (h : OffA f) (a : Nat) (z : Int) : OffA (amap f a z) := by
  intro k x hx
  unfold amap at hx
  split at hx
  · split at hx
    · rename_i l p o he
      cases hx
      exact h k (l, p, o) he
    · cases hx; rfl
  · exact h _ _ hx
theorem offA_apoke {f : AM} (h : OffA f) (a : Nat) (v : UInt8) : OffA (apoke f a v) := by
  intro k x hx
  unfold apoke at hx
  split at hx
  · cases he : f k with
    | none => rw [he] at hx; cases hx
    | some y => rw [he] at hx; cases hx; exact h k y he
  · exact h _ _ hx
theorem offA_lay (z : Int) : ∀ (ps : List Nat) {f : AM}, OffA f → OffA (layAm f z ps) := by
  intro ps
  induction ps with
  | nil => intro f h; exact h
  | cons p ps ih => intro f h; exact ih (offA_amap h p z)
theorem offA_fill {f : AM} (h : OffA f) (a : Nat) (d : List UInt8) : ∀ k, OffA (fillAm f a d k)
  | 0 => h
  | k + 1 => offA_apoke (offA_fill h a d k) _ _
theorem offA_load : ∀ (l : List Sg) {f : AM}, OffA f → OffA (l.foldl segAm f) := by
  intro l
  induction l with
  | nil => intro f h; exact h
  | cons g l ih => intro f h; exact ih (offA_fill (offA_lay _ _ h) _ _ _)
theorem offA_all (l : List Sg) : OffA (loadAm l) := offA_load l fun _ _ h => by cases h
theorem off_of_abs {s : MS} (h : OffA s.abs) : ∀ k ∈ s.ks, s.on k = false := fun k hk => h k _ (abs_in hk)
/-- A memory on the way, so many segments being there. -/
structure LM (u wr : World) (mb mo : Nat) (l : List Sg) (k : Nat) (s : MS) : Prop where
  own : Own u wr s
  mb : s.mb = mb
  most : s.most = mo
  ks : loadKs mo [] (l.take k) = some s.ks
  abs : s.abs = loadAm (l.take k)
  ts : s.ts = []
  c : s.c ≤ 16384 * k
/-- A memory on the way, the next segment's pages being there. -/
structure LL (u wr : World) (mb mo : Nat) (l : List Sg) (k : Nat) (s : MS) : Prop where
  own : Own u wr s
  mb : s.mb = mb
  most : s.most = mo
  ks : loadKs mo [] (l.take (k + 1)) = some s.ks
  abs : s.abs = segLay (loadAm (l.take k)) (l.getD k nosg)
  ts : s.ts = []
  c : s.c ≤ 16384 * k
theorem take_getD {l : List Sg} {k : Nat} (h : k < l.length) : l.take (k + 1) = l.take k ++ [l.getD k nosg] := by
  rw [take_snoc l k h]
  simp [List.getD_eq_getElem?_getD, h]
theorem LM.laid {u wr : World} {mb most k : Nat} {l : List Sg} {s : MS} (h : LM u wr mb most l k s) (hk : k < l.length) (hg : okB (l.getD k nosg) = true) :
    Calls Try.prog 27 #[.pointer (some ⟨mb, 0, none⟩), .int .u32 ((l.getD k nosg).at_ : Int), .int .u32 ((l.getD k nosg).size : Int), .int .i64 (l.getD k nosg).perm] wr fun e w' => Below u.heap.size u w' ∧ (∀ b, b < wr.heap.size → ¬ foot s b → w'.heap[b]? = wr.heap[b]?) ∧ wr.heap.size ≤ w'.heap.size ∧ ((e = .returned (.int .i64 0) ∧ ∃ s', LL u w' mb most l k s' ∧ (∀ b, foot s' b → foot s b ∨ wr.heap.size ≤ b)) ∨ (e = .returned (.int .i64 2) ∧ loadKs most [] (l.take (k + 1)) = none)) := by
  obtain ⟨g1, g2, g3, g4, g5, g6⟩ := ok_size hg
  have h27 := lay_any wr s (l.getD k nosg).at_ (l.getD k nosg).size (l.getD k nosg).perm h.own.mem g4
  rw [h.mb] at h27
  refine h27.mono ?_
  rintro e w' (⟨s', he, hL, hS⟩ | ⟨he, hn, s', hS⟩)
  · have ho := h.own.step hS
    refine ⟨ho.below, fun b hb hf => hS.keep.block b hb hf, hS.keep.size, .inl ⟨he, s', ⟨ho, hL.mb.trans h.mb, hL.most.trans h.most, ?_, ?_, hL.ts.trans h.ts, by rw [hL.c]; exact h.c⟩, hS.grow⟩⟩
    · rw [take_getD hk, loadKs_append, h.ks]
      show loadKs most s.ks [_] = _
      rw [loadKs_one, ← h.most]
      exact hL.ks
    · rw [hL.abs, h.abs]; rfl
  · refine ⟨(h.own.step hS).below, fun b hb hf => hS.keep.block b hb hf, hS.keep.size, .inr ⟨he, ?_⟩⟩
    rw [take_getD hk, loadKs_append, h.ks]
    show loadKs most s.ks [_] = _
    rw [loadKs_one, ← h.most]
    exact hn
theorem LL.filled {u wr : World} {mb most k : Nat} {l : List Sg} {s : MS} (h : LL u wr mb most l k s) (hk : k < l.length) (hk8 : k < 8) (hg : okB (l.getD k nosg) = true) :
    Calls Try.prog 28 #[.pointer (some ⟨mb, 0, none⟩), .agg #[.int .u32 ((l.getD k nosg).at_ : Int), .string ⟨(l.getD k nosg).data.toArray⟩, .int .u32 ((l.getD k nosg).size : Int), .int .i64 (l.getD k nosg).perm]] wr fun e w' => e = .returned (.tuple #[]) ∧ ∃ s', LM u w' mb most l (k + 1) s' := by
  obtain ⟨g1, g2, g3, g4, g5, g6⟩ := ok_size hg
  have hc := h.c
  have h28 := fill_any wr s (l.getD k nosg) h.own.mem (off_of_abs (by rw [h.abs]; exact offA_lay _ _ (offA_all _))) (by omega) (by omega)
  rw [h.mb] at h28
  refine h28.mono ?_
  rintro e w' ⟨he, s', hP, hS⟩
  have hc2 := hP.c
  refine ⟨he, s', ⟨h.own.step hS, hP.mb.trans h.mb, hP.most.trans h.most, by rw [hP.ks]; exact h.ks, ?_, hP.ts.trans h.ts, by omega⟩⟩
  rw [hP.abs, h.abs, take_getD hk, loadAm_snoc]
  rfl
/-- What was loaded. -/
structure Loaded (w w' : World) (mo : Nat) (l : List Sg) (s : MS) : Prop where
  own : Own w w' s
  most : s.most = mo
  ks : allKs mo l = some s.ks
  abs : s.abs = allAm l
  ts : s.ts = []
theorem LM.stack {u wr : World} {mb most : Nat} {l : List Sg} {s : MS} (h : LM u wr mb most l l.length s) :
    Calls Try.prog 27 #[.pointer (some ⟨mb, 0, none⟩), .int .u32 2147479040, .int .u32 512, .int .i64 6] wr fun e w' => Below u.heap.size u w' ∧ ((e = .returned (.int .i64 0) ∧ ∃ s', s'.mb = mb ∧ Loaded u w' most l s') ∨ (e = .returned (.int .i64 2) ∧ allKs most l = none)) := by
  have h27 := lay_any wr s 2147479040 512 6 h.own.mem (by omega)
  rw [h.mb] at h27
  have hks := h.ks
  have hab := h.abs
  rw [List.take_of_length_le (Nat.le_refl _)] at hks hab
  refine Calls.mono h27 ?_
  rintro e w' (⟨s', he, hL, hS⟩ | ⟨he, hn, s', hS⟩)
  · refine ⟨(h.own.step hS).below, .inl ⟨he, s', hL.mb.trans h.mb, h.own.step hS, hL.most.trans h.most, ?_, ?_, hL.ts.trans h.ts⟩⟩
    · unfold allKs
      rw [hks, ← h.most]
      exact hL.ks
    · rw [hL.abs, hab]; rfl
  · refine ⟨(h.own.step hS).below, .inr ⟨he, ?_⟩⟩
    unfold allKs
    rw [hks, ← h.most]
    exact hn
theorem results_tct {fn : Func} {t p u : Tmp} {ty : TypeId} (h : fn.results = #[.tmp t, .cell p ty, .tmp u]) (tmps : Array Value) (w : World) (g : Nat) (v : Value)
    (hp : tmps.getD p undef = .pointer (some ⟨g, 0, none⟩)) (hv : (loadVar ty ⟨g, 0, none⟩).run Try.prog w = .ok v w) :
    (results fn tmps).run Try.prog w = .ok (.tuple #[tmps.getD t undef, v, tmps.getD u undef]) w := by
  have hp' : tmps[p]?.getD undef = .pointer (some ⟨g, 0, none⟩) := by simpa using hp
  simp [results, h, hp', asAddr, hv]
theorem load31 {w : World} {g : Nat} {sp pc nx : Int} (hg : Blk w g (stC sp pc nx) 31) : (loadVar 31 ⟨g, 0, none⟩).run Try.prog w = .ok (.agg (stC sp pc nx)) w :=
  run_loadVar_row w g 31 31 _ _ _ hg Try.underlying31 rfl (info31 _ _ _)
end Go.Proofs.Ytpknppicamefgaa
