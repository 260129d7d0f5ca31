/- Pages that are laid, one behind the other: what is there behind it, over plain lists. -/
import Derived.Test.YtpknppicamefgaaQMAK
import Derived.Test.YtpknppicamefgaaQMAV
import Derived.RangeFuncBox
import Derived.RangeFuncLeaves
import Derived.RangeFuncFrom
import Derived.RangeFuncWrites
import Derived.Shelf.Abstract
import Derived.WalkKit
import Derived.OwnWalkIn
import Derived.TacticsInMore
import Derived.LoopNIn
import Derived.LoopIn
import Derived.RangeFuncCalls
namespace Go.Proofs.Ytpknppicamefgaa
open Go.ChangeShapes Go.WideShapes Go.ChangeAt Go.RowKit
set_option linter.unusedVariables false
/-- The keys behind it, if there is room. -/
def layKs (most : Nat) : List Nat → List Nat → Option (List Nat)
  | ks, [] => some ks
  | ks, p :: ps => if p ∈ ks then layKs most ks ps else if ks.length < most then layKs most (ks ++ [p]) ps else none
theorem layKs_append (most : Nat) (qs : List Nat) : ∀ (ps ks : List Nat), layKs most ks (ps ++ qs) = (layKs most ks ps).bind fun k => layKs most k qs := by
  intro ps
  induction ps with
  | nil => intro ks; rfl
  | cons p ps ih =>
    intro ks
    simp only [List.cons_append, layKs]
    split
    · exact ih ks
    · split
      · exact ih _
      · rfl
theorem layKs_none {most : Nat} {ks ps qs : List Nat} (h : ps <+: qs) (hn : layKs most ks ps = none) : layKs most ks qs = none := by
  obtain ⟨t, rfl⟩ := h
  rw [layKs_append, hn]
  rfl
def layAm (f : AM) (z : Int) (ps : List Nat) : AM := ps.foldl (fun g p => amap g p z) f
theorem layAm_snoc (f : AM) (z : Int) (ps : List Nat) (p : Nat) : layAm f z (ps ++ [p]) = amap (layAm f z ps) p z := by
  simp [layAm]
/-- How many pages so many bytes touch; which. -/
def cntP (a n : Nat) : Nat := (a % 256 + n + 255) / 256
def pgs (a : Nat) (k : Nat) : List Nat := (List.range k).map fun j => pageOf a + 256 * j
theorem pgs_len (a k : Nat) : (pgs a k).length = k := by simp [pgs]
theorem pgs_succ (a k : Nat) : pgs a (k + 1) = pgs a k ++ [pageOf a + 256 * k] := by simp [pgs, List.range_succ]
theorem pgs_pre (a : Nat) : ∀ {k m : Nat}, k ≤ m → pgs a k <+: pgs a m := by
  intro k m h
  induction h with
  | refl => exact List.prefix_rfl
  | step h ih => rw [pgs_succ]; exact ih.trans (List.prefix_append _ _)
theorem mapped_bm (s : MS) (a : Nat) (z : Int) (b : Nat) : (s.mapped a z b).bm = s.bm := by unfold MS.mapped; split; rfl; split <;> rfl
theorem mapped_keys (s : MS) (a : Nat) (z : Int) (b : Nat) : (s.mapped a z b).ks = if pageOf a ∈ s.ks then s.ks else if s.ks.length < s.most then s.ks ++ [pageOf a] else s.ks := by
  unfold MS.mapped
  split
  · rfl
  · split <;> rfl
/-- The places of pages. -/
abbrev Pl := { x : Nat // x < 4294967296 ∧ x % 256 = 0 }
def vals (l : List Pl) : List Nat := l.map Subtype.val
theorem vals_snoc (l : List Pl) (x : Pl) : vals (l ++ [x]) = vals l ++ [x.1] := by simp [vals]
theorem vals_len (l : List Pl) : (vals l).length = l.length := by simp [vals]
theorem page_self {x : Nat} (h : x % 256 = 0) : pageOf x = x := by unfold pageOf; omega
/-- A memory behind pages that were laid in it. -/
structure Laid (s : MS) (z : Int) (ps : List Nat) (s' : MS) : Prop where
  mb : s'.mb = s.mb
  bm : s'.bm = s.bm
  most : s'.most = s.most
  ts : s'.ts = s.ts
  c : s'.c = s.c
  ks : layKs s.most s.ks ps = some s'.ks
  abs : s'.abs = layAm s.abs z ps
theorem Laid.refl (s : MS) (z : Int) : Laid s z [] s := ⟨rfl, rfl, rfl, rfl, rfl, rfl, rfl⟩
theorem Laid.map {s s' : MS} {z : Int} {ps : List Nat} (h : Laid s z ps s') {x : Nat} (hx : x % 256 = 0) (b : Nat) (hr : x ∈ s'.ks ∨ s'.ks.length < s'.most) : Laid s z (ps ++ [x]) (s'.mapped x z b) := by
  have hp := page_self hx
  refine ⟨(mapped_mb _ _ _ _).trans h.mb, (mapped_bm _ _ _ _).trans h.bm, (mapped_most _ _ _ _).trans h.most, (mapped_ts _ _ _ _).trans h.ts, (mapped_c _ _ _ _).trans h.c, ?_, ?_⟩
  · rw [layKs_append, h.ks, mapped_keys, hp]
    show layKs s.most s'.ks [x] = _
    simp only [layKs]
    rw [← h.most]
    by_cases h1 : x ∈ s'.ks
    · rw [if_pos h1, if_pos h1]
    · rw [if_neg h1, if_neg h1]
      rcases hr with hr | hr
      · exact absurd hr h1
      · rw [if_pos hr, if_pos hr]
  · rw [layAm_snoc, abs_mapped (by rw [hp]; exact hr), h.abs]
theorem Laid.full {s s' : MS} {z : Int} {ps : List Nat} (h : Laid s z ps s') {x : Nat} (hr : ¬ (x ∈ s'.ks ∨ s'.ks.length < s'.most)) : layKs s.most s.ks (ps ++ [x]) = none := by
  rw [layKs_append, h.ks]
  show layKs s.most s'.ks [x] = _
  simp only [layKs]
  rw [← h.most, if_neg fun h1 => hr (.inl h1), if_neg fun h1 => hr (.inr h1)]
theorem mapErr_eq {s : MS} {x : Nat} (hx : x % 256 = 0) : s.mapErr x = if x ∈ s.ks ∨ s.ks.length < s.most then 0 else 2 := by
  unfold MS.mapErr
  rw [page_self hx]
/-- The blocks of a memory that are no cells. -/
theorem foot_cells {w : World} {s : MS} (h : MemW w s) {b : Nat} (hf : foot s b) (hb : b ≠ s.bm) : ∃ cs T fr, w.heap[b]? = some (.cells cs T fr) := by
  rcases hf with e | e | ⟨k, hk, e⟩ | ⟨k, hk, e⟩ | e
  · subst e; exact ⟨_, _, _, h.self⟩
  · exact absurd e hb
  · subst e; exact ⟨_, _, _, h.held k hk⟩
  · subst e
    obtain ⟨n, _, _, hp⟩ := h.page k hk
    exact ⟨_, _, _, hp.blk⟩
  · obtain ⟨cur, hc⟩ := h.tv_cells e
    exact ⟨_, _, _, hc⟩
end Go.Proofs.Ytpknppicamefgaa
namespace Go.Proofs.Ytpknppicamefgaa
open Go.ChangeShapes Go.WideShapes Go.ChangeAt Go.RowKit Go.Shelf
set_option linter.unusedVariables false
attribute [local go_sem] Oper.semAt_some
/-- What a round keeps for the pages: the two boxes. -/
def KpB (A : Nat) (W W' : World) : Prop := W'.heap[A]? = W.heap[A]? ∧ W'.heap[A + 1]? = W.heap[A + 1]?
theorem kpB_t {A : Nat} {U V W : World} (h : KpB A U V) (k : KpB A V W) : KpB A U W := ⟨k.1.trans h.1, k.2.trans h.2⟩
theorem kpB_b {A : Nat} {w : World} (hA : A + 1 < w.heap.size) (W : World) (l : Nat) (o o' : Obj) (hl : w.heap.size ≤ l) (h : W.heap[l]? = some o) (_ : o.isCells = false) (_ : o.isWalk = false) : KpB A W (W.putObj l o') := by
  have hb := belowK_b (n₀ := w.heap.size) (Nat.le_refl _) W l o o' hl h (by assumption) (by assumption)
  exact ⟨hb.block A (by omega), hb.block (A + 1) hA⟩
theorem pages_any (a n : Nat) (w : World) : Calls Try.prog 56 #[.int .u32 (a : Int), .int .u32 (n : Int)] w fun e w' => e = .returned (.func (.func 76) #[] #[.pointer (some ⟨w.heap.size, 0, none⟩), .pointer (some ⟨w.heap.size + 1, 0, none⟩)]) ∧ w' = (w.alloc (.cells #[.int .u32 (a : Int)] 22)).alloc (.cells #[.int .u32 (n : Int)] 22) := by
  go_enter Try.func56, Try.ntmps56
  go_wp2
  go_ret
  exact ⟨rfl, rfl⟩
set_option maxRecDepth 100000 in
set_option maxHeartbeats 1000000 in
theorem pages1_in (F : Fence) (n : Nat) (h76 : F.fn 76) (hro : F.round = none) (hn : 1 ≤ n) (l A a sz : Nat) (hsz : a + sz ≤ 2147483648) (J Jx : List Pl → World → Prop)
    (hY : ∀ pre (x : Pl) W, J pre W → pre.length < cntP a sz → YieldAt F (n - 1) Try.prog l #[.int .u32 (x.1 : Int)] W fun e W' => (e = .returned (.bool true) ∧ J (pre ++ [x]) W' ∧ KpB A W W') ∨ (e = .returned (.bool false) ∧ Jx (pre ++ [x]) W'))
    (W : World) (hA0 : Boxed W A 22 (.int .u32 (a : Int))) (hA1 : Boxed W (A + 1) 22 (.int .u32 (sz : Int))) (h0 : J [] W) :
    CallsIn F n Try.prog 76 #[.func (.yield l) #[] #[], .pointer (some ⟨A, 0, none⟩), .pointer (some ⟨A + 1, 0, none⟩)] W fun e W' => (∃ v, e = .returned v) ∧ ((∃ xs : List Pl, vals xs = pgs a (cntP a sz) ∧ J xs W') ∨ (∃ pre : List Pl, vals pre <+: pgs a (cntP a sz) ∧ Jx pre W')) := by
  have HY := hidden hY
  have HA0 := hidden hA0
  have HA1 := hidden hA1
  have c0 := hA0.cell
  have c1 := hA1.cell
  have HJ0 := hidden h0
  have hst : ((a : Int) - (a : Int) % 256) % 4294967296 = ((pageOf a : Nat) : Int) := by unfold pageOf; omega
  clear hA0 hA1 hY h0
  refine callsIn_of_wp Try.func76 rfl h76 ?_ hro
  simp only [Try.ntmps76, List.size_toArray, List.length_cons, List.length_nil, Nat.reduceAdd, Nat.reduceSub, Array.replicate_succ, Array.replicate_zero, List.push_toArray, List.append_toArray, List.nil_append, List.cons_append]
  gi_wp2
  gi_loopw [4] (fun p wr => ∃ (k q : Nat) (pre : List Pl), q = pageOf a + 256 * k ∧ k ≤ cntP a sz ∧ p = .int .u32 (q : Int) ∧ vals pre = pgs a k ∧ J pre wr ∧ Boxed wr A 22 (.int .u32 (a : Int)) ∧ Boxed wr (A + 1) 22 (.int .u32 (sz : Int))) (fun p _ => a + sz + 256 - (intOf p).toNat)
  case atStart => exact ⟨0, pageOf a, [], by omega, by omega, by first | (simp; done) | (simp; unfold pageOf; omega), rfl, Hid.out HJ0, Hid.out HA0, Hid.out HA1⟩
  case round =>
    obtain ⟨k, q, pre, hq, hk, rfl, hv, hJ, hB0, hB1⟩ := hrel
    have d0 := hB0.cell
    have d1 := hB1.cell
    have hsum : ((a : Int) + (sz : Int)) % 4294967296 = (a : Int) + (sz : Int) := by omega
    have HV := hidden hv
    have HJ := hidden hJ
    have HB0 := hidden hB0
    have HB1 := hidden hB1
    have HQ := hidden hq
    have HK := hidden hk
    by_cases ht : q < a + sz
    · have ht2 : (q : Int) < (a : Int) + (sz : Int) := by omega
      have hkc : k < cntP a sz := by unfold cntP; unfold pageOf at hq; omega
      have hql : q < 4294967296 ∧ q % 256 = 0 := by unfold pageOf at hq; omega
      have hlen : pre.length < cntP a sz := by rw [← vals_len, hv, pgs_len]; exact hkc
      obtain ⟨fn, tmps, assign, body, hy, hR⟩ := Hid.out HY pre ⟨q, hql⟩ wr hJ hlen
      dsimp only at hy
      have HKC := hidden hkc
      have hq2 : ((q : Int) + 256) % 4294967296 = ((q + 256 : Nat) : Int) := by omega
      clear hv hJ hB0 hB1 hq hk hkc hlen ht
      gi_wp2
      refine hR.mono ?_
      rintro e W3 (⟨rfl, hJ3, hk3⟩ | ⟨rfl, hJx3⟩)
      · have HJ3 := hidden hJ3
        have HK3 := hidden hk3
        clear hJ3 hk3
        gi_wp2
        go_roundw
        case rel => first | exact ⟨k + 1, q + 256, pre ++ [⟨q, hql⟩], by have := Hid.out HQ; omega, Hid.out HKC, by simp, by rw [vals_snoc, Hid.out HV, pgs_succ, ← Hid.out HQ], Hid.out HJ3, (Hid.out HK3).1.trans (Hid.out HB0), (Hid.out HK3).2.trans (Hid.out HB1)⟩ | ((repeat apply Exists.intro); exact ⟨⟨k + 1, q + 256, pre ++ [⟨q, hql⟩], by have := Hid.out HQ; omega, Hid.out HKC, by simp, by rw [vals_snoc, Hid.out HV, pgs_succ, ← Hid.out HQ], Hid.out HJ3, (Hid.out HK3).1.trans (Hid.out HB0), (Hid.out HK3).2.trans (Hid.out HB1)⟩, rfl⟩)
        case measure => simp [intOf]; omega
      · gi_wp2
        refine bodyPost_ret (results_none rfl _ _ _) rfl ?_
        exact ⟨⟨_, rfl⟩, .inr ⟨pre ++ [⟨q, hql⟩], by rw [vals_snoc, Hid.out HV]; show pgs a k ++ [q] <+: _; rw [Hid.out HQ, ← pgs_succ]; exact pgs_pre a (Hid.out HKC), hJx3⟩⟩
    · have ht2 : ¬ (q : Int) < (a : Int) + (sz : Int) := by omega
      have hke : k = cntP a sz := by unfold cntP at hk ⊢; unfold pageOf at hq; omega
      have HKE := hidden hke
      clear hv hJ hB0 hB1 hq hk hke ht
      gi_wp2
      go_end0
      exact ⟨⟨_, rfl⟩, .inl ⟨pre, by rw [Hid.out HV, ← Hid.out HKE], Hid.out HJ⟩⟩
theorem pages_stops (F : Fence) (n : Nat) (h76 : F.fn 76) (hro : F.round = none) (hn : 1 ≤ n) (A a sz : Nat) (hsz : a + sz ≤ 2147483648) (w : World) (hA0 : Boxed w A 22 (.int .u32 (a : Int))) (hA1 : Boxed w (A + 1) 22 (.int .u32 (sz : Int))) :
    SeqStopsK F n Try.prog 76 #[.pointer (some ⟨A, 0, none⟩), .pointer (some ⟨A + 1, 0, none⟩)] (fun x : Pl => #[Value.int .u32 (x.1 : Int)]) (KpB A) (fun ss => vals ss = pgs a (cntP a sz)) (fun ss => vals ss <+: pgs a (cntP a sz)) (cntP a sz) w := fun l J Jx W hW hJ _ hY h0 =>
  pages1_in F n h76 hro hn l A a sz hsz J Jx hY W ((hW.block A hA0.lt).trans hA0) ((hW.block (A + 1) hA1.lt).trans hA1) h0
end Go.Proofs.Ytpknppicamefgaa
namespace Go.Proofs.Ytpknppicamefgaa
open Go.ChangeShapes Go.WideShapes Go.ChangeAt Go.RowKit Go.Shelf
set_option linter.unusedVariables false
attribute [local go_sem] Oper.semAt_some
/-- A memory on the way, beside five boxes of the call's own. -/
structure LI (w : World) (s : MS) (W : World) (s' : MS) : Prop where
  step : Step w s W s'
  bm : s'.bm = s.bm
  low : s.bm < w.heap.size
  own : ∀ b, w.heap.size ≤ b → b < w.heap.size + 5 → ¬ foot s' b
  big : w.heap.size + 5 ≤ W.heap.size
theorem LI.grown {w W W' : World} {s s' : MS} {row : Option Nat} (h : LI w s W s') (hg : W.grownBy W' row) (hr : ∀ r, row = some r → w.heap.size + 5 ≤ r ∧ ∃ o : Obj, W.heap[r]? = some o ∧ o.isCells = false) : LI w s W' s' := by
  have hm : MemW W' s' := h.step.mem.keep (Keep.grown hg) fun b hf e => by
    obtain ⟨h1, o, h2, h3⟩ := hr b e
    by_cases hb : b = s'.bm
    · have := h.low
      have := h.bm
      omega
    · obtain ⟨cs, T, fr, hc⟩ := foot_cells h.step.mem hf hb
      rw [hc] at h2
      cases h2
      simp [Obj.isCells] at h3
  exact ⟨⟨hm, h.step.keep.trans (Keep.grown hg) (fun b hb e => by have := (hr b e).1; omega), h.step.grow⟩, h.bm, h.low, h.own, Nat.le_trans h.big hg.size⟩
theorem LI.map {w W W' : World} {s s' s'' : MS} (h : LI w s W s') (k : Step W s' W' s'') (hb : s''.bm = s'.bm) : LI w s W' s'' :=
  ⟨h.step.trans k, hb.trans h.bm, h.low, fun b h1 h2 hf => by
    rcases k.grow b hf with h3 | h3
    · exact h.own b h1 h2 h3
    · have := h.big
      omega, Nat.le_trans h.big k.keep.size⟩
theorem LI.set {w W : World} {s s' : MS} (h : LI w s W s') (v : Value) : LI w s (W.setCell ⟨w.heap.size + 2, 0, none⟩ v) s' := by
  have hk := keep_setCell W (w.heap.size + 2) 0 v
  have hf := h.own (w.heap.size + 2) (by omega) (by omega)
  exact ⟨⟨h.step.mem.keep hk fun b hb e => hf (e ▸ hb), h.step.keep.trans hk (fun b hb e => by omega), h.step.grow⟩, h.bm, h.low, h.own, Nat.le_trans h.big hk.size⟩
theorem LI.from {w W W' : World} {s s' s'' : MS} (h : LI w s W s') (k : Step W s' W' s'') : KeepsFrom (w.heap.size + 5) W W' :=
  ⟨k.keep.size, fun b o hB hb ho => (k.keep.block b (Array.getElem?_eq_some_iff.1 hb).1 fun hf => by
    by_cases e : b = s'.bm
    · have := h.low
      have := h.bm
      omega
    · obtain ⟨cs, T, fr, hc⟩ := foot_cells h.step.mem hf e
      rw [hc] at hb
      cases hb
      simp [Obj.isCells] at ho).trans hb⟩
theorem LI.box {w W W' : World} {s s' s'' : MS} (h : LI w s W s') (k : Step W s' W' s'') {b : Nat} (h1 : w.heap.size ≤ b) (h2 : b < w.heap.size + 5) : W'.heap[b]? = W.heap[b]? :=
  k.keep.block b (by have := h.big; omega) (h.own b h1 h2)
theorem LI.kp {w W W' : World} {s s' s'' : MS} (h : LI w s W s') (k : Step W s' W' s'') : KpB (w.heap.size + 3) W W' := ⟨h.box k (by omega) (by omega), h.box k (by omega) (by omega)⟩
set_option maxRecDepth 100000 in
set_option maxHeartbeats 2000000 in
theorem lay_any (w : World) (s : MS) (a sz : Nat) (z : Int) (h : MemW w s) (hsz : a + sz ≤ 2147483648) : Calls Try.prog 27 #[.pointer (some ⟨s.mb, 0, none⟩), .int .u32 (a : Int), .int .u32 (sz : Int), .int .i64 z] w fun e w' => (∃ s', e = .returned (.int .i64 0) ∧ Laid s z (pgs a (cntP a sz)) s' ∧ Step w s w' s') ∨ (e = .returned (.int .i64 2) ∧ layKs s.most s.ks (pgs a (cntP a sz)) = none ∧ ∃ s', Step w s w' s') := by
  refine (callsIn_wide (n := 3)).1 ?_
  obtain ⟨W0, hW0⟩ : ∃ W0, ((((w.alloc (.cells #[.pointer (some ⟨s.mb, 0, none⟩)] 28)).alloc (.cells #[.int .i64 z] 3)).alloc (.cells #[.int .i64 0] 32)).alloc (.cells #[.int .u32 (a : Int)] 22)).alloc (.cells #[.int .u32 (sz : Int)] 22) = W0 := ⟨_, rfl⟩
  have hs0 : W0.heap.size = w.heap.size + 5 := by rw [← hW0]; simp
  have hb0 : Below w.heap.size w W0 := by
    rw [← hW0]
    exact (((((Below.refl _ w).alloc (Nat.le_refl _) _).alloc (by simp) _).alloc (by simp; omega) _).alloc (by simp; omega) _).alloc (by simp; omega) _
  have b0 : Boxed W0 w.heap.size 28 (.pointer (some ⟨s.mb, 0, none⟩)) := by
    rw [← hW0]; exact ((((Boxed.new w 28 _).alloc _).alloc _).alloc _).alloc _
  have b1 : Boxed W0 (w.heap.size + 1) 3 (.int .i64 z) := by
    have := Boxed.new (w.alloc (.cells #[.pointer (some ⟨s.mb, 0, none⟩)] 28)) 3 (.int .i64 z)
    rw [World.size_alloc] at this
    rw [← hW0]; exact (((this).alloc _).alloc _).alloc _
  have b2 : Boxed W0 (w.heap.size + 2) 32 (.int .i64 0) := by
    have := Boxed.new ((w.alloc (.cells #[.pointer (some ⟨s.mb, 0, none⟩)] 28)).alloc (.cells #[.int .i64 z] 3)) 32 (.int .i64 0)
    rw [World.size_alloc, World.size_alloc] at this
    rw [← hW0]; exact (this.alloc _).alloc _
  have b3 : Boxed W0 (w.heap.size + 3) 22 (.int .u32 (a : Int)) := by
    have := Boxed.new (((w.alloc (.cells #[.pointer (some ⟨s.mb, 0, none⟩)] 28)).alloc (.cells #[.int .i64 z] 3)).alloc (.cells #[.int .i64 0] 32)) 22 (.int .u32 (a : Int))
    rw [World.size_alloc, World.size_alloc, World.size_alloc] at this
    rw [← hW0]; exact this.alloc _
  have b4 : Boxed W0 (w.heap.size + 3 + 1) 22 (.int .u32 (sz : Int)) := by
    have := Boxed.new ((((w.alloc (.cells #[.pointer (some ⟨s.mb, 0, none⟩)] 28)).alloc (.cells #[.int .i64 z] 3)).alloc (.cells #[.int .i64 0] 32)).alloc (.cells #[.int .u32 (a : Int)] 22)) 22 (.int .u32 (sz : Int))
    rw [World.size_alloc, World.size_alloc, World.size_alloc, World.size_alloc] at this
    rw [← hW0]; exact this
  have hli : LI w s W0 s := ⟨Step.later h hb0, rfl, h.lt (.inr (.inl rfl)), fun b h1 h2 hf => by have := h.lt hf; omega, by omega⟩
  have HP := hidden (fun w1 => pages_any a sz w1)
  have HH := hidden h
  clear h
  refine callsIn_of_wp_marks Try.func27 rfl trivial ?_ rfl
  simp only [Try.ntmps27, List.size_toArray, List.length_cons, List.length_nil, Nat.reduceAdd, Nat.reduceSub, Array.replicate_succ, Array.replicate_zero, List.push_toArray, List.append_toArray, List.nil_append, List.cons_append]
  gi_wp2_with (refine ⟨trivial, ?_⟩; gi_at_call 56; refine (callsIn_wide.2 (Hid.out HP _)).mono ?_; rintro e w' ⟨rfl, rfl⟩)
  refine wpIn_rangeFunc_ownG rfl (by omega) (gf := 76) (lb := #[.pointer (some ⟨w.heap.size + 3, 0, none⟩), .pointer (some ⟨w.heap.size + 3 + 1, 0, none⟩)]) rfl trivial (enters_of Try.func76 (by kernel_rfl) rfl)
    (pages_stops Fence.wide (3 - 1) trivial rfl (by omega) (w.heap.size + 3) a sz hsz W0 b3 b4) kpB_t (kpB_b (by omega)) (Below.refl _ _) (fun _ => rfl)
    (fun pre W => ∃ s', Laid s z (vals pre) s' ∧ LI w s W s' ∧ Boxed W w.heap.size 28 (.pointer (some ⟨s.mb, 0, none⟩)) ∧ Boxed W (w.heap.size + 1) 3 (.int .i64 z) ∧ Boxed W (w.heap.size + 2) 32 (.int .i64 0))
    (fun c pre W => c = .ret ∧ layKs s.most s.ks (vals pre) = none ∧ ∃ s', LI w s W s' ∧ Boxed W (w.heap.size + 2) 32 (.int .i64 2))
    ?hI ?hIx ⟨s, Laid.refl s z, hli, b0, b1, b2⟩
    (fun x => { tmps := #[.pointer (some ⟨s.mb, 0, none⟩), .int .u32 (a : Int), .int .u32 (sz : Int), .int .i64 z, .pointer (some ⟨w.heap.size, 0, none⟩), undef, undef, .pointer (some ⟨w.heap.size + 1, 0, none⟩), .pointer (some ⟨w.heap.size + 2, 0, none⟩), .int .u32 (x.1 : Int), undef, .int .u32 (a : Int), .int .u32 (sz : Int), .func (.func 76) #[] #[.pointer (some ⟨w.heap.size + 3, 0, none⟩), .pointer (some ⟨w.heap.size + 3 + 1, 0, none⟩)], .int .u32 (x.1 : Int), undef, undef, undef, undef, undef, undef, undef], defers := [] }) ?assign ?body ?done ?stop
  case hI =>
    rintro pre W W' row ⟨s', h1, h2, h3, h4, h5⟩ hg hr
    have hne : ∀ b, b < w.heap.size + 5 → some b ≠ row := fun b hb e => by have := (hr b e.symm).1; omega
    exact ⟨s', h1, h2.grown hg (fun r e => by have := hr r e; exact ⟨by omega, this.2⟩), h3.kept hg (hne _ (by omega)), h4.kept hg (hne _ (by omega)), h5.kept hg (hne _ (by omega))⟩
  case hIx =>
    rintro c pre W W' row ⟨h0, h1, s', h2, h5⟩ hg hr
    have hne : ∀ b, b < w.heap.size + 5 → some b ≠ row := fun b hb e => by have := (hr b e.symm).1; omega
    exact ⟨h0, h1, s', h2.grown hg (fun r e => by have := hr r e; exact ⟨by omega, this.2⟩), h5.kept hg (hne _ (by omega))⟩
  case assign =>
    intro l x W K hK
    gi_wp2
    exact hK
  case body =>
    rintro l pre ⟨x, hx1, hx2⟩ W ⟨s', hL, hI, e0, e1, e2⟩ hlt
    have d0 := e0.cell
    have d1 := e1.cell
    have d2 := e2.cell
    have f2 := e2.frozen
    have hm := map_any W s' x z hI.step.mem hx1
    rw [hL.mb] at hm
    by_cases hr : x ∈ s'.ks ∨ s'.ks.length < s'.most
    · rw [mapErr_eq hx2, if_pos hr] at hm
      have hm2 : CallsIn Fence.wide (3 - 1 - 1 - 1) Try.prog 57 #[.pointer (some ⟨s.mb, 0, none⟩), .int .u32 (x : Int), .int .i64 z] W fun e w' => e = .returned (.int .i64 0) ∧ Step W s' w' (s'.mapped x z W.heap.size) := callsIn_wide.2 hm
      have HM := hidden hm2
      have HR := hidden hr
      have HL := hidden hL
      have HI := hidden hI
      have E0 := hidden e0
      have E1 := hidden e1
      have E2 := hidden e2
      clear hm hm2 hr hL hI e0 e1 e2
      gi_wp2_with (refine ⟨trivial, ?_⟩; gi_at_call 57; refine (CallsIn.inRound l (Hid.out HM)).mono ?_; rintro e w2 ⟨rfl, st⟩; have ST := hidden st; clear st)
      exact ⟨by rw [hs0]; exact (Hid.out HI).from (Hid.out ST), (Hid.out HI).kp (Hid.out ST), _, by rw [vals_snoc]; exact (Hid.out HL).map hx2 _ (Hid.out HR), (Hid.out HI).map (Hid.out ST) (mapped_bm _ _ _ _), ((Hid.out HI).box (Hid.out ST) (by omega) (by omega)).trans (Hid.out E0), ((Hid.out HI).box (Hid.out ST) (by omega) (by omega)).trans (Hid.out E1), ((Hid.out HI).box (Hid.out ST) (by omega) (by omega)).trans (Hid.out E2)⟩
    · rw [mapErr_eq hx2, if_neg hr] at hm
      have hm2 : CallsIn Fence.wide (3 - 1 - 1 - 1) Try.prog 57 #[.pointer (some ⟨s.mb, 0, none⟩), .int .u32 (x : Int), .int .i64 z] W fun e w' => e = .returned (.int .i64 2) ∧ Step W s' w' (s'.mapped x z W.heap.size) ∧ w'.cell? ⟨w.heap.size + 2, 0, none⟩ = some (.int .i64 0) ∧ w'.frozen? ⟨w.heap.size + 2, 0, none⟩ = false := by
        refine callsIn_wide.2 (hm.mono ?_)
        rintro e w' ⟨h1, h2⟩
        have e3 : Boxed w' (w.heap.size + 2) 32 (.int .i64 0) := (hI.box h2 (by omega) (by omega)).trans e2
        exact ⟨h1, h2, e3.cell, e3.frozen⟩
      have HM := hidden hm2
      have HR := hidden hr
      have HL := hidden hL
      have HI := hidden hI
      have E2 := hidden e2
      clear hm hm2 hr hL hI e0 e1 e2
      gi_wp2_with (refine ⟨trivial, ?_⟩; gi_at_call 57; refine (CallsIn.inRound l (Hid.out HM)).mono ?_; rintro e w2 ⟨rfl, st, g2, g3⟩; have ST := hidden st; clear st)
      have hI2 := (Hid.out HI).map (Hid.out ST) (mapped_bm _ _ _ _)
      have e3 : Boxed w2 (w.heap.size + 2) 32 (.int .i64 0) := ((Hid.out HI).box (Hid.out ST) (by omega) (by omega)).trans (Hid.out E2)
      exact ⟨by rw [hs0]; exact ((Hid.out HI).from (Hid.out ST)).trans ((KeepsOthers.setCell _ _ _).from _), rfl, by rw [vals_snoc]; exact (Hid.out HL).full (Hid.out HR), _, hI2.set _, e3.set _⟩
  case done =>
    rintro D ys W hD hys ⟨s', hL, hI, e0, e1, e2⟩ hK
    have d2 := e2.cell
    have f2 := e2.frozen
    have hI2 := hI.set (.int .i64 0)
    have e3 := e2.set (.int .i64 0)
    gi_wp2
    have hK' := (KeepsOthers.setCell W ⟨w.heap.size + 2, 0, none⟩ (.int .i64 0)).same D _ hK rfl
    refine ⟨by simp, .inl ⟨_, _, rfl, run_takeDeferred hK', ?_⟩⟩
    have hc5 := cell_kept e3.cell (grownBy_putObj' _ D (.deferred none)) (fun r e => by cases e; exact ⟨_, hK', rfl⟩)
    refine ⟨.int .i64 0, ?_, .inl ⟨s', rfl, by rw [← hys]; exact hL, (hI2.grown (grownBy_putObj' _ D (.deferred none)) (fun r e => by cases e; exact ⟨by omega, _, hK', rfl⟩)).step⟩⟩
    simp [results, Try.f27, go_sem, hc5]
  case stop =>
    rintro D c pre W hD hpre ⟨rfl, hn, s', hI, e2⟩ hK
    gi_wp2
    refine ⟨by simp, .inl ⟨_, _, rfl, run_takeDeferred hK, ?_⟩⟩
    have hc5 := cell_kept e2.cell (grownBy_putObj' _ D (.deferred none)) (fun r e => by cases e; exact ⟨_, hK, rfl⟩)
    refine ⟨.int .i64 2, ?_, .inr ⟨rfl, layKs_none hpre hn, s', (hI.grown (grownBy_putObj' _ D (.deferred none)) (fun r e => by cases e; exact ⟨by omega, _, hK, rfl⟩)).step⟩⟩
    simp [results, Try.f27, go_sem, hc5]
end Go.Proofs.Ytpknppicamefgaa
