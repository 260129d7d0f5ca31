/- The document's example, and lists of words held against each other. -/
import Derived.Test.YtodoenimlhldjaaBMAD
import Derived.RangeFuncBox
import Derived.RangeFuncLeaves
import Derived.RangeFuncFrom
import Derived.Shelf.Abstract
import Derived.WalkKit
import Derived.OwnWalkIn
import Derived.TacticsInMore
import Derived.LoopNIn
import Derived.LoopIn
import Derived.Sort.LoopGhostIn
import Derived.Maps.AppendAt
import Derived.BigRegion
namespace Go.Proofs.Ytodoenimlhldjaa
open Go.ChangeShapes Go.WideShapes Go.ChangeAt Go.RowKit
set_option linter.unusedVariables false
theorem fresh_foot {mb bm most b : Nat} (h : foot (fresh mb bm most) b) : b = mb ∨ b = bm := by
  rcases h with h | h | ⟨k, hk, h⟩ | ⟨k, hk, h⟩ | h
  · exact .inl h
  · exact .inr h
  · simp [fresh] at hk
  · simp [fresh] at hk
  · simp [fresh, Value.ownBlock] at h
theorem newMem_step (z : Int) (w : World) : Calls Try.prog 26 #[.int .i64 z] w fun e w' => ∃ mb bm, e = .returned (.pointer (some ⟨mb, 0, none⟩)) ∧ MemW w' (fresh mb bm (cutMost z)) ∧ Below w.heap.size w w' ∧ ∀ b, foot (fresh mb bm (cutMost z)) b → w.heap.size ≤ b := by
  refine (newMem_any z w).mono ?_
  rintro e w' ⟨he, hm, hb⟩
  refine ⟨_, _, he, hm, hb, fun b hf => ?_⟩
  rcases fresh_foot hf with h | h <;> omega
/-- Words in memory. -/
def Wds (w : World) (v : Value) (l : List Nat) : Prop := ∃ ao cap, v = .slice ao l.length cap ∧ (l = [] ∨ ∃ b off, ao = some ⟨b, off, none⟩ ∧ b < w.heap.size ∧ ∀ j, j < l.length → w.cell? ⟨b, off + j, none⟩ = some (.int .u32 ((l.getD j 0 : Nat) : Int)))
theorem wds_of_row {w : World} {base n : Nat} {v : Value} {l : List Nat} (h : w.ownsRow base 23 1 v n (words l)) : Wds w v l := by
  have hn : n = l.length := by have := h.1; rw [words_len] at this; omega
  subst hn
  rcases h.2 with ⟨e, h0⟩ | ⟨g, cap, cur, e, _, hg, hnc, hcm, _, htake⟩
  · exact ⟨none, 0, by rw [e, h0], .inl (List.eq_nil_of_length_eq_zero h0)⟩
  · refine ⟨_, cap, e, .inr ⟨g, 0, rfl, (Array.getElem?_eq_some_iff.1 hg).1, fun j hj => ?_⟩⟩
    subst e
    have hc := h.cellAt j (by omega)
    rw [words_get l j hj] at hc
    rw [Nat.zero_add]
    exact hc
theorem Wds.later {w w' : World} {v : Value} {l : List Nat} (h : Wds w v l) (hb : Below w.heap.size w w') : Wds w' v l := by
  obtain ⟨ao, cap, e, h⟩ := h
  refine ⟨ao, cap, e, ?_⟩
  rcases h with h | ⟨b, off, e2, hlt, hc⟩
  · exact .inl h
  · exact .inr ⟨b, off, e2, Nat.lt_of_lt_of_le hlt hb.size, fun j hj => (hb.cell (p := ⟨b, off + j, none⟩) hlt).trans (hc j hj)⟩
theorem sameWords_len (w : World) (v u : Value) (l m : List Nat) (hl : Wds w v l) (hm : Wds w u m) (hne : l.length ≠ m.length) : Calls Try.prog 18 #[v, u] w fun e w' => e = .returned (.bool false) ∧ w' = w := by
  obtain ⟨ao, cap, rfl, _⟩ := hl
  obtain ⟨bo, cap2, rfl, _⟩ := hm
  have h : ¬ (l.length : Int) = (m.length : Int) := by omega
  generalize (l.length) = x at h
  generalize (m.length) = y at h
  clear hne
  go_enter Try.func18, Try.ntmps18
  go_wp2
  go_ret
  exact ⟨rfl, rfl⟩
theorem sameWords_any (w : World) (v u : Value) (l : List Nat) (hl : Wds w v l) (hm : Wds w u l) (hlen : l.length ≤ 4611686018427387904) : Calls Try.prog 18 #[v, u] w fun e w' => e = .returned (.bool true) ∧ ∃ n, w' = w.drewN n := by
  obtain ⟨ao, cap, rfl, h1⟩ := hl
  obtain ⟨bo, cap2, rfl, h2⟩ := hm
  have H1 := hidden h1
  have H2 := hidden h2
  clear h1 h2
  go_enter Try.func18, Try.ntmps18
  go_wp2
  go_loopw [5] (fun i wr => ∃ (k n : Nat), k ≤ l.length ∧ i = .int .i64 (k : Int) ∧ wr = w.drewN n) (fun i _ => l.length - (intOf i).toNat)
  case atStart => exact ⟨0, 0, by omega, rfl, rfl⟩
  case round =>
    obtain ⟨k, n, hk, rfl, rfl⟩ := hrel
    by_cases hkn : k < l.length
    · obtain ⟨b, off, rfl, hc⟩ : ∃ b off, ao = some ⟨b, off, none⟩ ∧ w.cell? ⟨b, off + k, none⟩ = some (.int .u32 ((l.getD k 0 : Nat) : Int)) := by
        rcases Hid.out H1 with h | ⟨b, off, e, _, h⟩
        · rw [h] at hkn; simp at hkn
        · exact ⟨b, off, e, h k hkn⟩
      obtain ⟨b2, off2, rfl, hc2⟩ : ∃ b off, bo = some ⟨b, off, none⟩ ∧ w.cell? ⟨b, off + k, none⟩ = some (.int .u32 ((l.getD k 0 : Nat) : Int)) := by
        rcases Hid.out H2 with h | ⟨b, off, e, _, h⟩
        · rw [h] at hkn; simp at hkn
        · exact ⟨b, off, e, h k hkn⟩
      generalize l.getD k 0 = x at hc hc2
      clear H1 H2
      go_wp2
      go_quiet (fail)
      go_wp2
      go_roundw
      case rel => exact ⟨k + 1, _, by omega, by simp, rfl⟩
      case measure => simp [intOf]; omega
    · have hkk : ¬ (k : Int) < (l.length : Int) := by omega
      go_wp2
      go_ret
      exact ⟨rfl, _, rfl⟩
end Go.Proofs.Ytodoenimlhldjaa
namespace Go.Proofs.Ytodoenimlhldjaa
open Go.ChangeShapes Go.WideShapes Go.ChangeAt Go.RowKit
set_option linter.unusedVariables false
/-- A memory of the call's own. -/
structure Own (w0 w : World) (s : MS) : Prop where
  mem : MemW w s
  below : Below w0.heap.size w0 w
  foot : ∀ b, foot s b → w0.heap.size ≤ b
theorem Own.step {w0 w w' : World} {s s' : MS} (h : Own w0 w s) (k : Step w s w' s') : Own w0 w' s' := by
  have := k.below h.below.size h.foot
  exact ⟨k.mem, h.below.trans this.1, this.2⟩
theorem one_word (z : Int) : ∀ u ∈ [Value.int .u32 z], u.oneCell' = true := by
  intro u hu
  simp at hu
  subst hu
  rfl
theorem row_base {w : World} {base n : Nat} {v : Value} {xs : List Value} (h : w.ownsRow base 23 1 v n xs) : ∀ g, v.ownBlock = some g → base ≤ g := by
  intro g hg
  rcases h.2 with ⟨e, _⟩ | ⟨g', cap, cur, e, hb, _⟩
  · rw [e] at hg; simp [Value.ownBlock] at hg
  · rw [e] at hg
    simp [Value.ownBlock] at hg
    omega
/-- A word put behind a row of the call's own. -/
theorem wpList_pushW {wa : World} {ops : Array Oper} {rest : List Oper} {o : Oper} {a : Act} {Q : Exit → Act → World → Prop} (hgd : o.guard = none) (s x : Operand) (ho : o.op = .call { callee := .builtin .append, args := #[s, x], argTypes := #[47, 47] }) (base : Nat) (v : Value) (ts : List Nat) (z : Int) (w4 : World) (hwa : wa = w4.alloc (.cells #[.int .u32 z] 23)) (hs : a.eval s = v) (hx : a.eval x = .slice (some ⟨w4.heap.size, 0, none⟩) 1 1) (hrow : w4.ownsRow base 23 1 v ts.length (words ts)) (hlen : ts.length < 1099511627776) (hbase : base ≤ w4.heap.size)
    (h : ∀ v' w', w'.ownsRow base 23 1 v' (ts.length + 1) (words ts ++ [.int .u32 z]) → w4.grownBy w' v.ownBlock → (v'.ownBlock = v.ownBlock ∨ ∃ q, w4.heap.size ≤ q ∧ v'.ownBlock = some q) → wpList Try.prog ops Q rest (a.put o.dst v') w') : wpList Try.prog ops Q (o :: rest) a wa := by
  subst hwa
  obtain ⟨i0, hi, hz0, hz1, hz2⟩ := info_parts info27
  refine wpList_append_own_at _ hgd s x 47 ho base 23 i0 (.int .u32 0) 1 4 Try.underlying47 hi hz0 hz1 hz2 rfl (by decide) v ts.length (words ts) hs (hrow.alloc _) ⟨w4.heap.size, 0, none⟩ 1 1 [.int .u32 z] hx rfl (cell_one_new _ _ _) (one_word z) (by unfold maxLen; omega) (by omega) (by simp; omega) ?_
  intro v' w' hown hgr _ hloc
  refine h v' w' hown ((World.grownBy_alloc w4 _ _).trans hgr) ?_
  rcases hloc with hl | hl
  · exact .inl hl
  · exact .inr ⟨_, by simp, hl⟩
/-- A row of the call's own that has grown. -/
theorem row_grown {w w4 w5 : World} {s : MS} {v v5 : Value} (h : Own w w4 s) (ha : ∀ g, v.ownBlock = some g → ¬ foot s g) (hg : w4.grownBy w5 v.ownBlock) (hl : v5.ownBlock = v.ownBlock ∨ ∃ q, w4.heap.size ≤ q ∧ v5.ownBlock = some q) (hb : ∀ g, v.ownBlock = some g → w.heap.size ≤ g) : Own w w5 s ∧ ∀ g, v5.ownBlock = some g → ¬ foot s g := by
  refine ⟨⟨h.mem.keep (Keep.grown hg) (fun b hb' e => ha b e hb'), h.below.trans ((Keep.grown hg).below h.below.size hb), h.foot⟩, fun g hg' hf => ?_⟩
  rcases hl with hl | ⟨q, hq, hl⟩
  · rw [hl] at hg'
    exact ha g hg' hf
  · rw [hl] at hg'
    obtain rfl : q = g := by simpa using hg'
    have := h.mem.lt hf
    omega
end Go.Proofs.Ytodoenimlhldjaa
namespace Go.Proofs.Ytodoenimlhldjaa
open Go.ChangeShapes Go.WideShapes Go.ChangeAt Go.RowKit Go.Shelf
set_option linter.unusedVariables false
attribute [local go_sem] Oper.semAt_some
theorem only_grown {r : Nat} {w w' : World} (h : Only r w w') : w.grownBy w' (some r) := ⟨h.os, h.tape, h.output, Nat.le_of_eq h.size.symm, fun k _ hk => h.block k fun e => hk (by rw [e])⟩
theorem It.walk {w : World} {r bm : Nat} {ks todo : List Nat} (h : It w r bm ks todo) : ∃ o : Obj, w.heap[r]? = some o ∧ o.isWalk = true := by
  obtain ⟨seen, c0, h1, _⟩ := h.now
  exact ⟨_, h1, rfl⟩
theorem It.kept {w w' : World} {r bm : Nat} {ks todo : List Nat} (h : It w r bm ks todo) (hk : KeepsWalks w w') : It w' r bm ks todo := by
  obtain ⟨seen, c0, h1, h2, h3⟩ := h.now
  exact ⟨⟨seen, c0, hk.same r _ h1 rfl, h2, h3⟩, h.nodup, h.sub⟩
theorem perm_step {ss todo ks : List Nat} {k : Nat} (h : (ss ++ todo).Perm ks) (hk : k ∈ todo) : ((ss ++ [k]) ++ todo.erase k).Perm ks := by
  rw [List.append_assoc, List.singleton_append]
  exact (List.Perm.append_left ss (List.perm_cons_erase hk).symm).trans h
set_option maxRecDepth 100000 in
set_option maxHeartbeats 1000000 in
theorem keys1_in (F : Fence) (n : Nat) (h66 : F.fn 73) (hro : F.round = none) (hn : 1 ≤ n) (l Bm bm : Nat) (hb : Nat → Nat) (ks : List Nat) (J Jx : List Nat → World → Prop)
    (hY : ∀ pre (x : Nat) W, J pre W → pre.length < ks.length → YieldAt F (n - 1) Try.prog l #[.int .u32 (x : Int)] W fun e W' => (e = .returned (.bool true) ∧ J (pre ++ [x]) W' ∧ KeepsWalks W W') ∨ (e = .returned (.bool false) ∧ Jx (pre ++ [x]) W'))
    (W : World) (hJ : AbidesFrom W.heap.size J) (hm : W.cell? ⟨Bm, 0, none⟩ = some (.map (some bm))) (hmap : W.heap[bm]? = some (mapObj hb ks)) (hnd : ks.Nodup) (h0 : J [] W) :
    CallsIn F n Try.prog 73 #[.func (.yield l) #[] #[], .pointer (some ⟨Bm, 0, none⟩)] W fun e W' => (∃ v, e = .returned v) ∧ ((∃ ss : List Nat, ss.Perm ks ∧ J ss W') ∨ (∃ pre : List Nat, True ∧ Jx pre W')) := by
  have hrg := run_range hmap
  have HIT := hidden (it_start (w := W) (bm := bm) hnd)
  have HM := hidden hmap
  have HJ0 := hidden (hJ [] W _ none h0 (World.grownBy_alloc W (.mapIter (some bm) ks.length #[] ks.length) none) (fun r e => by cases e))
  have HM0 : Hid ((W.alloc (.mapIter (some bm) ks.length #[] ks.length)).heap[bm]? = some (mapObj hb ks)) := (heap_alloc_old _ _ (Array.getElem?_eq_some_iff.1 hmap).1).trans hmap
  have HY := hidden hY
  have HJ := hidden hJ
  clear hmap hJ hY h0
  refine callsIn_of_wp Try.func73 rfl h66 ?_ hro
  simp only [Try.ntmps73, List.size_toArray, List.length_cons, List.length_nil, Nat.reduceAdd, Nat.reduceSub, Array.replicate_succ, Array.replicate_zero, List.push_toArray, List.append_toArray, List.nil_append, List.cons_append]
  gi_wp2
  gi_loopg [3] ks.length (fun q _ wr => ∃ todo ss, todo.length = q ∧ It wr W.heap.size bm ks todo ∧ wr.heap[bm]? = some (mapObj hb ks) ∧ (ss ++ todo).Perm ks ∧ J ss wr)
  case atStart => exact ⟨ks, [], rfl, Hid.out HIT, Hid.out HM0, List.Perm.refl _, Hid.out HJ0⟩
  case round =>
    obtain ⟨todo, ss, hq, hI, hmr, hp, hJs⟩ := hrel
    rcases run_next hI hmr hnd 0 with ⟨h0', hrun⟩ | ⟨k, w2, hk, hrun, hI2, hO, hent⟩
    · have HP := hidden hp
      have HJs := hidden hJs
      clear hI hmr hp hJs
      gi_wp2
      go_end0
      subst h0'
      exact ⟨⟨_, rfl⟩, .inl ⟨ss, by simpa using Hid.out HP, Hid.out HJs⟩⟩
    · have hJ2 : J ss w2 := Hid.out HJ ss wr w2 (some W.heap.size) hJs (only_grown hO) (fun r e => by cases e; exact ⟨Nat.le_refl _, hI.walk⟩)
      have hlen := hp.length_eq
      rw [List.length_append] at hlen
      have hpos := List.length_pos_of_mem hk
      have hel := List.length_erase_of_mem hk
      obtain ⟨fn, tmps, assign, body, hy, hR⟩ := Hid.out HY ss k w2 hJ2 (by omega)
      have hm2 : w2.heap[bm]? = some (mapObj hb ks) := (hO.block bm (fun e => by obtain ⟨o, ho, hw⟩ := hI.walk; obtain ⟨seen, c0, h1, _⟩ := hI.now; rw [← e, hmr] at h1; simp [mapObj] at h1)).trans hmr
      have HI2 := hidden hI2
      have HM2 := hidden hm2
      have HP2 := hidden (perm_step hp hk)
      clear hI hmr hp hJs hJ2 hI2 hm2 hO hk
      gi_wp2
      refine hR.mono ?_
      rintro e W3 (⟨rfl, hJ3, hk3⟩ | ⟨rfl, hJx3⟩)
      · have HJ3 := hidden hJ3
        have HK3 := hidden hk3
        clear hJ3 hk3
        gi_wp2
        gi_roundg (todo.erase k).length
        case measure => omega
        case rel => exact ⟨todo.erase k, ss ++ [k], rfl, (Hid.out HI2).kept (Hid.out HK3), (Hid.out HK3).same bm _ (Hid.out HM2) rfl, Hid.out HP2, Hid.out HJ3⟩
      · gi_wp2
        refine bodyPost_ret (results_none rfl _ _ _) rfl ?_
        exact ⟨⟨_, rfl⟩, .inr ⟨ss ++ [k], trivial, hJx3⟩⟩
theorem keys_stops (F : Fence) (n : Nat) (h66 : F.fn 73) (hro : F.round = none) (hn : 1 ≤ n) (Bm bm : Nat) (hb : Nat → Nat) (ks : List Nat) (w : World) (hBm : Bm < w.heap.size) (hm : w.cell? ⟨Bm, 0, none⟩ = some (.map (some bm))) (hmap : w.heap[bm]? = some (mapObj hb ks)) (hnd : ks.Nodup) :
    SeqStopsK F n Try.prog 73 #[.pointer (some ⟨Bm, 0, none⟩)] (fun x : Nat => #[Value.int .u32 (x : Int)]) KeepsWalks (fun ss => ss.Perm ks) (fun _ => True) ks.length w := fun l J Jx W hW hJ _ hY h0 =>
  keys1_in F n h66 hro hn l Bm bm hb ks J Jx hY W hJ ((hW.cell (p := ⟨Bm, 0, none⟩) hBm).trans hm) ((hW.block bm (Array.getElem?_eq_some_iff.1 hmap).1).trans hmap) hnd h0
set_option maxRecDepth 100000 in
set_option maxHeartbeats 2000000 in
theorem appendSeq_in (F : Fence) (n : Nat) (h69 : F.fn 81) (h66 : F.fn 73) (hro : F.round = none) (hn : 3 ≤ n) (Bm bm : Nat) (hb : Nat → Nat) (ks : List Nat) (hlen : ks.length ≤ 64) (w : World) (hBm : Bm < w.heap.size) (hm : w.cell? ⟨Bm, 0, none⟩ = some (.map (some bm))) (hmap : w.heap[bm]? = some (mapObj hb ks)) (hnd : ks.Nodup) :
    CallsIn F n Try.prog 81 #[.slice none 0 0, .func (.func 73) #[] #[.pointer (some ⟨Bm, 0, none⟩)]] w fun e W' => ∃ v ss, e = .returned v ∧ ss.Perm ks ∧ W'.ownsRow w.heap.size 23 1 v ss.length (words ss) ∧ (v = .slice none 0 0 ↔ ss = []) ∧ Below w.heap.size w W' := by
  have h1 : 1 ≤ n := by omega
  obtain ⟨i0, hi, hz0, hz1, hz2⟩ := info_parts info27
  refine callsIn_of_wp_marks Try.func81 rfl h69 ?_ hro
  simp only [Try.ntmps81, List.size_toArray, List.length_cons, List.length_nil, Nat.reduceAdd, Nat.reduceSub, Array.replicate_succ, Array.replicate_zero, List.push_toArray, List.append_toArray, List.nil_append, List.cons_append]
  gi_wp2
  have bO := Boxed.new w 47 (.slice none 0 0)
  have hB0 : Below w.heap.size w (w.alloc (.cells #[.slice none 0 0] 47)) := (Below.refl _ w).alloc (Nat.le_refl _) _
  refine wpIn_rangeFunc_ownG hro h1 (gf := 73) (lb := #[.pointer (some ⟨Bm, 0, none⟩)]) rfl h66 (enters_of Try.func73 (by kernel_rfl) rfl)
    (keys_stops F (n - 1) h66 hro (by omega) Bm bm hb ks _ (by simp; omega) ((hB0.cell (p := ⟨Bm, 0, none⟩) hBm).trans hm) ((hB0.block bm (Array.getElem?_eq_some_iff.1 hmap).1).trans hmap) hnd) walksK_t walksK_b (Below.refl _ _) (fun _ => rfl)
    (fun pre W => (∃ v, Boxed W w.heap.size 47 v ∧ W.ownsRow w.heap.size 23 1 v pre.length (words pre) ∧ (v = .slice none 0 0 ↔ pre = [])) ∧ Below w.heap.size w W)
    (fun _ _ _ => False)
    (OwnFrom.and (Own.from (holdsRow_own w.heap.size w.heap.size 47 23 1 (fun pre => pre.length) (fun pre => words pre) (fun pre v => v = .slice none 0 0 ↔ pre = [])) _) (ownFrom_below (Nat.le_refl _) (by simp)))
    (fun _ _ _ _ _ hs _ _ => hs)
    ⟨⟨_, bO, World.ownsRow_nil _ _ _ _, by simp⟩, hB0⟩
    (fun x => { tmps := #[.slice none 0 0, .func (.func 73) #[] #[.pointer (some ⟨Bm, 0, none⟩)], .pointer (some ⟨w.heap.size, 0, none⟩), undef, .slice none 0 0, .int .u32 (x : Int), .func (.func 73) #[] #[.pointer (some ⟨Bm, 0, none⟩)], .int .u32 (x : Int), undef, undef, undef, undef, undef], defers := [] }) ?assign ?body ?done ?stop
  case assign =>
    intro l x W K hK
    gi_wp2
    exact hK
  case body =>
    rintro l pre x W ⟨⟨v, hv, hrow, hnil⟩, hB⟩ hlt
    have hc := hv.cell
    gi_wp2_with (gi_at_builtin; refine wpListIn_append_own _ rfl _ _ 47 rfl w.heap.size 23 i0 (.int .u32 0) 1 4 Try.underlying47 hi hz0 hz1 hz2 rfl (by decide) _ _ _ rfl (hrow.alloc _) ⟨W.heap.size, 0, none⟩ 1 1 [.int .u32 (x : Int)] rfl rfl (cell_one_new _ _ _) (by simp [Value.oneCell']) (by unfold maxLen; omega) (by omega) (by have := hB.size; simp; omega) ?_; intro v' w1 hown' hgrow _; obtain ⟨g', cap', rfl⟩ := ownsRow_succ hown'; obtain ⟨hv1, hv2, hr2, hk2, hb2⟩ := hv.appended (by decide) hrow hB.size (Nat.le_refl _) hown' hgrow; have hc1 := hv1.cell; have hf1 := hv1.frozen)
    exact ⟨hk2.from _, hk2.walks, ⟨_, hv2, by rw [words_append, List.length_append]; exact hr2, by simp⟩, hB.trans hb2⟩
  case done =>
    rintro D ys W hD hperm ⟨⟨v, hv, hrow, hnil⟩, hB⟩ hK
    have hc := hv.cell
    gi_wp2
    refine ⟨by simp, .inl ⟨_, _, rfl, run_takeDeferred hK, ?_⟩⟩
    exact ⟨_, results_tmp rfl _ _ _, v, ys, rfl, hperm, ownsRow_putObj hrow _ hK rfl, hnil, hB.trans (belowK_b (w := w) (Nat.le_refl _) W D _ _ (by simp at hD; omega) hK rfl rfl)⟩
  case stop =>
    rintro D c pre W _ _ h _
    exact h.elim
theorem collect_any (Bm bm : Nat) (hb : Nat → Nat) (ks : List Nat) (hlen : ks.length ≤ 64) (w : World) (hBm : Bm < w.heap.size) (hm : w.cell? ⟨Bm, 0, none⟩ = some (.map (some bm))) (hmap : w.heap[bm]? = some (mapObj hb ks)) (hnd : ks.Nodup) :
    Calls Try.prog 71 #[.func (.func 73) #[] #[.pointer (some ⟨Bm, 0, none⟩)]] w fun e W' => ∃ v ss, e = .returned v ∧ ss.Perm ks ∧ W'.ownsRow w.heap.size 23 1 v ss.length (words ss) ∧ (v = .slice none 0 0 ↔ ss = []) ∧ Below w.heap.size w W' := by
  have H := hidden (callsIn_wide.1 (appendSeq_in Fence.wide 3 trivial trivial rfl (Nat.le_refl _) Bm bm hb ks hlen w hBm hm hmap hnd))
  clear hm hmap hnd hBm hlen
  go_enter Try.func71, Try.ntmps71
  go_wp2_with (go_at_call 81; refine (Hid.out H).mono ?_; rintro e w1 ⟨v, ss, rfl, h1, h2, h3, h4⟩; obtain ⟨va, vn, vc, rfl⟩ := row_slice h2; have H1 := hidden h1; have H2 := hidden h2; have H3 := hidden h3; have H4 := hidden h4; clear h1 h2 h3 h4)
  go_ret
  exact ⟨_, ss, rfl, Hid.out H1, Hid.out H2, Hid.out H3, Hid.out H4⟩
theorem keysOf_any (bm : Nat) (w : World) : Calls Try.prog 52 #[.map (some bm)] w fun e w' => e = .returned (.func (.func 73) #[] #[.pointer (some ⟨w.heap.size, 0, none⟩)]) ∧ w' = w.alloc (.cells #[.map (some bm)] 86) := by
  go_enter Try.func52, Try.ntmps52
  go_wp2
  go_ret
  exact ⟨rfl, rfl⟩
end Go.Proofs.Ytodoenimlhldjaa
namespace Go.Proofs.Ytodoenimlhldjaa
open Go.ChangeShapes Go.WideShapes Go.ChangeAt Go.RowKit
set_option linter.unusedVariables false
theorem Only.drewN {b : Nat} {u w : World} (h : Only b u w) (n : Nat) : Only b u (w.drewN n) := ⟨h.os, h.tape, h.output, h.size, h.block⟩
/-- A row of words, and what lies behind it. -/
def Srow (w : World) (g : Nat) (d : List Nat) (tl : List Value) : Prop := w.heap[g]? = some (.cells (words d ++ tl).toArray 23 (0, 0))
theorem Srow.cell {w : World} {g : Nat} {d : List Nat} {tl : List Value} (h : Srow w g d tl) {j : Nat} (hj : j < d.length) : w.cell? ⟨g, j, none⟩ = some (.int .u32 ((d.getD j 0 : Nat) : Int)) := by
  rw [cell_of_row _ _ _ _ _ _ h, List.getElem?_toArray, List.getElem?_append_left (by rw [words_len]; exact hj), words_get d j hj]
theorem Srow.thaw {w : World} {g : Nat} {d : List Nat} {tl : List Value} (h : Srow w g d tl) (j : Nat) : w.frozen? ⟨g, j, none⟩ = false := frozen_of_row _ _ _ _ _ h
theorem Srow.set {w : World} {g : Nat} {d : List Nat} {tl : List Value} (h : Srow w g d tl) {j : Nat} (hj : j < d.length) (x : Nat) : Srow (w.setCell ⟨g, j, none⟩ (.int .u32 (x : Int))) g (d.set j x) tl := by
  unfold Srow
  rw [heap_setCell_same _ _ _ _ _ _ h, List.setIfInBounds_toArray, List.set_append_left _ _ (by rw [words_len]; exact hj)]
  simp [words, List.map_set]
theorem Srow.drewN {w : World} {g : Nat} {d : List Nat} {tl : List Value} (h : Srow w g d tl) (n : Nat) : Srow (w.drewN n) g d tl := h
def swp (d : List Nat) (i j : Nat) : List Nat := (d.set i (d.getD j 0)).set j (d.getD i 0)
theorem swp_len (d : List Nat) (i j : Nat) : (swp d i j).length = d.length := by simp [swp]
theorem swp_get (d : List Nat) {i j : Nat} (hi : i < d.length) (hj : j < d.length) (k : Nat) : (swp d i j).getD k 0 = if k = j then d.getD i 0 else if k = i then d.getD j 0 else d.getD k 0 := by
  unfold swp
  simp only [List.getD_eq_getElem?_getD, List.getElem?_set, List.length_set]
  by_cases h1 : j = k
  · subst h1
    simp [hj]
  · rw [if_neg h1, if_neg (Ne.symm h1)]
    by_cases h2 : i = k
    · subst h2
      simp [hi]
    · rw [if_neg h2, if_neg (Ne.symm h2)]
theorem swp_perm (d : List Nat) {i j : Nat} (hi : i < d.length) (hj : j < d.length) : (swp d i j).Perm d := by
  have h := Array.swap_perm (xs := d.toArray) (i := i) (j := j) (by simpa using hi) (by simpa using hj)
  have e : (d.toArray.swap i j (by simpa using hi) (by simpa using hj)).toList = swp d i j := by
    rw [Array.toList_swap]
    simp [swp, List.getD_eq_getElem?_getD, hi, hj]
  have := Array.perm_iff_toList_perm.1 h
  rw [e] at this
  simpa using this
theorem less_any (x y : Nat) (w : World) : Calls Try.prog 91 #[.int .u32 (x : Int), .int .u32 (y : Int)] w fun e w' => e = .returned (.bool (decide (x < y))) ∧ w' = w := by
  have hn : ∀ (z : Nat) (u : World), Hid (Calls Try.prog 101 #[.int .u32 (z : Int)] u fun e w' => e = .returned (.bool false) ∧ w' = u) := by
    intro z u
    show Calls Try.prog 101 #[.int .u32 (z : Int)] u fun e w' => e = .returned (.bool false) ∧ w' = u
    go_enter Try.func101, Try.ntmps101
    go_wp2
    go_ret
    exact ⟨rfl, rfl⟩
  by_cases h : x < y
  · rw [decide_eq_true h]
    have h2 : (x : Int) < (y : Int) := by omega
    go_enter Try.func91, Try.ntmps91
    go_wp2_with (go_at_call 101; refine (Hid.out (hn _ _)).mono ?_; rintro e w1 ⟨rfl, hww⟩; rw [hww]; clear hww w1)
    go_ret
    exact ⟨rfl, rfl⟩
  · rw [decide_eq_false h]
    have h2 : ¬ (x : Int) < (y : Int) := by omega
    go_enter Try.func91, Try.ntmps91
    go_wp2_with (go_at_call 101; refine (Hid.out (hn _ _)).mono ?_; rintro e w1 ⟨rfl, hww⟩; rw [hww]; clear hww w1)
    go_ret
    exact ⟨rfl, rfl⟩
/-- In order, from a on, ahead of b. -/
def SortedOn (d : List Nat) (a b : Nat) : Prop := ∀ p q, a ≤ p → p < q → q < b → d.getD p 0 ≤ d.getD q 0
/-- The same but for an order, from a on, ahead of b. -/
structure Turned (d m : List Nat) (a b : Nat) : Prop where
  perm : m.Perm d
  out : ∀ p, p < a ∨ b ≤ p → m.getD p 0 = d.getD p 0
theorem Turned.refl (d : List Nat) (a b : Nat) : Turned d d a b := ⟨List.Perm.refl _, fun _ _ => rfl⟩
theorem Turned.trans {d m k : List Nat} {a b : Nat} (h : Turned d m a b) (h2 : Turned m k a b) : Turned d k a b := ⟨h2.perm.trans h.perm, fun p hp => (h2.out p hp).trans (h.out p hp)⟩
theorem Turned.swp {d m : List Nat} {a b i j : Nat} (h : Turned d m a b) (hi : a ≤ i ∧ i < b) (hj : a ≤ j ∧ j < b) (hb : b ≤ m.length) : Turned d (swp m i j) a b :=
  h.trans ⟨swp_perm m (by omega) (by omega), fun p hp => by
    rw [swp_get m (by omega) (by omega), if_neg (by omega), if_neg (by omega)]⟩
/-- On the way: the one at j goes down. -/
structure Ins (m : List Nat) (a i j : Nat) : Prop where
  le : a ≤ j ∧ j ≤ i
  others : ∀ p q, a ≤ p → p < q → q ≤ i → p ≠ j → q ≠ j → m.getD p 0 ≤ m.getD q 0
  above : ∀ q, j < q → q ≤ i → m.getD j 0 ≤ m.getD q 0
theorem Ins.start {m : List Nat} {a i : Nat} (h : SortedOn m a i) (hi : a ≤ i) : Ins m a i i := ⟨⟨hi, Nat.le_refl _⟩, fun p q h1 h2 h3 h4 h5 => h p q h1 h2 (by omega), fun q h1 h2 => by omega⟩
theorem Ins.low {m : List Nat} {a i j : Nat} (h : Ins m a i j) (hj : j = a) : SortedOn m a (i + 1) := by
  intro p q h1 h2 h3
  by_cases e : p = j
  · rw [e]; exact h.above q (by omega) (by omega)
  · exact h.others p q h1 h2 (by omega) e (by omega)
theorem Ins.stop {m : List Nat} {a i j : Nat} (h : Ins m a i (j + 1)) (ha : a ≤ j) (hs : m.getD j 0 ≤ m.getD (j + 1) 0) : SortedOn m a (i + 1) := by
  intro p q h1 h2 h3
  by_cases e : p = j + 1
  · rw [e]; exact h.above q (by omega) (by omega)
  · by_cases e2 : q = j + 1
    · rw [e2]
      by_cases e3 : p = j
      · rw [e3]; exact hs
      · exact Nat.le_trans (h.others p j h1 (by omega) (by have := h.le; omega) e (by omega)) hs
    · exact h.others p q h1 h2 (by omega) e e2
theorem Ins.step {m : List Nat} {a i j : Nat} (h : Ins m a i (j + 1)) (ha : a ≤ j) (hl : i < m.length) (hs : m.getD (j + 1) 0 < m.getD j 0) : Ins (swp m (j + 1) j) a i j := by
  have hle := h.le
  have hg := fun k => swp_get m (i := j + 1) (j := j) (by omega) (by omega) k
  refine ⟨⟨ha, by omega⟩, fun p q h1 h2 h3 h4 h5 => ?_, fun q h1 h2 => ?_⟩
  · rw [hg p, hg q, if_neg h4, if_neg h5]
    by_cases e : p = j + 1
    · rw [if_pos e, if_neg (by omega)]
      exact h.others j q ha (by omega) h3 (by omega) (by omega)
    · rw [if_neg e]
      by_cases e2 : q = j + 1
      · rw [if_pos e2]
        exact h.others p j h1 (by omega) (by omega) e (by omega)
      · rw [if_neg e2]
        exact h.others p q h1 h2 h3 e e2
  · rw [hg j, if_pos rfl, hg q, if_neg (by omega)]
    by_cases e2 : q = j + 1
    · rw [if_pos e2]; omega
    · rw [if_neg e2]
      exact h.above q (by omega) h2
set_option maxRecDepth 20000 in
set_option maxHeartbeats 4000000 in
theorem insertion_any (w : World) (g cap a b : Nat) (d : List Nat) (tl : List Value) (h : Srow w g d tl) (hab : a ≤ b) (hb : b ≤ d.length) (hlen : d.length ≤ 4611686018427387904) :
    Calls Try.prog 85 #[.slice (some ⟨g, 0, none⟩) d.length cap, .int .i64 (a : Int), .int .i64 (b : Int)] w fun e w' => e = .returned (.tuple #[]) ∧ ∃ m, Srow w' g m tl ∧ Turned d m a b ∧ SortedOn m a b ∧ Only g w w' := by
  have H := hidden h
  clear h
  go_enter Try.func85, Try.ntmps85
  go_wp2
  go_loopw [6, 7] (fun x6 x7 wr => ∃ (i : Nat) (m : List Nat), a < i ∧ i ≤ b + 1 ∧ x6 = .int .i64 (i : Int) ∧ m.length = d.length ∧ Srow wr g m tl ∧ Turned d m a b ∧ SortedOn m a (min i b) ∧ Only g w wr) (fun x6 x7 _ => b + 1 - (intOf x6).toNat)
  case atStart => exact ⟨a + 1, d, by omega, by omega, by simp, rfl, Hid.out H, Turned.refl _ _ _, fun p q h1 h2 h3 => by omega, Only.refl _ _⟩
  case round =>
    obtain ⟨i, m, hi1, hi2, rfl, hml, hS, hT, hO, hW⟩ := hrel
    have HS := hidden hS
    have HT := hidden hT
    have HO := hidden hO
    have HW := hidden hW
    clear hS hT hO hW
    by_cases hib : i < b
    · have hib2 : (i : Int) < (b : Int) := by omega
      have HI0 : Hid (Ins m a i i) := Ins.start (fun p q h1 h2 h3 => Hid.out HO p q h1 h2 (by omega)) (by omega)
      go_wp2
      go_loopw [7] (fun x7 wr2 => ∃ (j : Nat) (k : List Nat), j ≤ i ∧ x7 = .int .i64 (j : Int) ∧ k.length = d.length ∧ Srow wr2 g k tl ∧ Turned d k a b ∧ Ins k a i j ∧ Only g w wr2) (fun x7 _ => (intOf x7).toNat)
      case atStart => exact ⟨i, m, Nat.le_refl _, rfl, hml, Hid.out HS, Hid.out HT, Hid.out HI0, Hid.out HW⟩
      case round =>
        obtain ⟨j, k, hji, rfl, hkl, hS2, hT2, hI2, hW2⟩ := hrel
        have hle := hI2.le
        have HS2 := hidden hS2
        have HT2 := hidden hT2
        have HI2 := hidden hI2
        have HW2 := hidden hW2
        by_cases hja : a < j
        · obtain ⟨j', rfl⟩ : ∃ j', j = j' + 1 := ⟨j - 1, by omega⟩
          have hc1 := hS2.cell (j := j' + 1) (by omega)
          have hc0 := hS2.cell (j := j') (by omega)
          have hz1 := hS2.thaw (j' + 1)
          have hz0 := hS2.thaw j'
          have hja2 : (a : Int) < (j' : Int) + 1 := by omega
          clear hS2 hT2 hI2 hW2
          have HL := hidden (fun u => less_any (k.getD (j' + 1) 0) (k.getD j' 0) u)
          cases hdec : decide (k.getD (j' + 1) 0 < k.getD j' 0) with
          | true =>
            rw [hdec] at HL
            have HLT := hidden (of_decide_eq_true hdec)
            clear hdec
            have HN : Hid (∀ n, Srow (((wr.drewN n).setCell ⟨g, j' + 1, none⟩ (.int .u32 ((k.getD j' 0 : Nat) : Int))).setCell ⟨g, j', none⟩ (.int .u32 ((k.getD (j' + 1) 0 : Nat) : Int))) g (swp k (j' + 1) j') tl) := fun n => by
              have h1 := ((Hid.out HS2).drewN n).set (j := j' + 1) (by omega) (k.getD j' 0)
              have h2 := h1.set (j := j') (by rw [List.length_set]; omega) (k.getD (j' + 1) 0)
              exact h2
            generalize hx1 : k.getD (j' + 1) 0 = x1 at hc1 HL HN
            generalize hx0 : k.getD j' 0 = x0 at hc0 HL HN
            clear hx1 hx0
            go_wp2
            go_quiet ((go_at_call 91; exact Calls.quiet_of_same (Hid.out HL _)))
            go_wp2
            go_region
            all_goals go_wp2
            go_roundw
            case rel => exact ⟨j', swp k (j' + 1) j', by omega, by simp, by rw [swp_len]; exact hkl, Hid.out HN _, (Hid.out HT2).swp ⟨by omega, by omega⟩ ⟨by omega, by omega⟩ (by omega), (Hid.out HI2).step (by omega) (by omega) (Hid.out HLT), ((((Hid.out HW2).drewN _).setCell _ _).setCell _ _)⟩
            case measure => simp [intOf]
          | false =>
            rw [hdec] at HL
            have HLT := hidden (of_decide_eq_false hdec)
            clear hdec
            have HEND : Hid (SortedOn k a (i + 1)) := (Hid.out HI2).stop (by omega) (Nat.le_of_not_lt (Hid.out HLT))
            generalize hx1 : k.getD (j' + 1) 0 = x1 at hc1 HL
            generalize hx0 : k.getD j' 0 = x0 at hc0 HL
            clear hx1 hx0
            go_wp2
            go_quiet ((go_at_call 91; exact Calls.quiet_of_same (Hid.out HL _)))
            go_wp2
            go_roundw
            case rel => exact ⟨i + 1, k, by omega, by omega, by simp, hkl, (Hid.out HS2).drewN _, Hid.out HT2, fun p q h1 h2 h3 => Hid.out HEND p q h1 h2 (by omega), (Hid.out HW2).drewN _⟩
            case measure => simp [intOf]; omega
        · have hja2 : decide ((a : Int) < (j : Int)) = false := by simp; omega
          have HEND : Hid (SortedOn k a (i + 1)) := hI2.low (by omega)
          clear hS2 hT2 hI2 hW2
          go_wp2
          go_quiet (fail)
          go_wp2
          go_roundw
          case rel => exact ⟨i + 1, k, by omega, by omega, by simp, hkl, (Hid.out HS2).drewN _, Hid.out HT2, fun p q h1 h2 h3 => Hid.out HEND p q h1 h2 (by omega), (Hid.out HW2).drewN _⟩
          case measure => simp [intOf]; omega
    · have hib2 : ¬ (i : Int) < (b : Int) := by omega
      go_wp2
      go_end0
      exact ⟨rfl, m, Hid.out HS, Hid.out HT, fun p q h1 h2 h3 => Hid.out HO p q h1 h2 (by omega), Hid.out HW⟩
end Go.Proofs.Ytodoenimlhldjaa
