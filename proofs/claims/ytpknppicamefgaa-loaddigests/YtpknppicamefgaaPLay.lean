/- Pages by a range over a function, and lay. -/
import Derived.Test.YtpknppicamefgaaPLayPlain
import Derived.RangeFuncBox
import Derived.RangeFuncLeaves
import Derived.RangeFuncFrom
import Derived.RangeFuncWrites
import Derived.Shelf.Abstract
import Derived.WalkKit
import Derived.OwnWalkIn
import Derived.TacticsInMore
import Derived.LoopNIn
import Derived.LoopIn
namespace Go.Proofs.Ytpknppicamefgaa
open Go.ChangeShapes Go.WideShapes Go.ChangeAt Go.RowKit Go.Shelf
set_option linter.unusedVariables false
attribute [local go_sem] Oper.semAt_some
/-- What a round keeps for the pages: the two boxes. -/
def KpB (A : Nat) (W W' : World) : Prop := W'.heap[A]? = W.heap[A]? ∧ W'.heap[A + 1]? = W.heap[A + 1]?
theorem kpB_t {A : Nat} {U V W : World} (h : KpB A U V) (k : KpB A V W) : KpB A U W := ⟨k.1.trans h.1, k.2.trans h.2⟩
theorem kpB_b {A : Nat} {w : World} (hA : A + 1 < w.heap.size) (W : World) (l : Nat) (o o' : Obj) (hl : w.heap.size ≤ l) (h : W.heap[l]? = some o) (_ : o.isCells = false) (_ : o.isWalk = false) : KpB A W (W.putObj l o') := by
  have hb := belowK_b (n₀ := w.heap.size) (Nat.le_refl _) W l o o' hl h (by assumption) (by assumption)
  exact ⟨hb.block A (by omega), hb.block (A + 1) hA⟩
theorem pages_any (a n : Nat) (w : World) : Calls Try.prog 56 #[.int .u32 (a : Int), .int .u32 (n : Int)] w fun e w' => e = .returned (.func (.func 76) #[] #[.pointer (some ⟨w.heap.size, 0, none⟩), .pointer (some ⟨w.heap.size + 1, 0, none⟩)]) ∧ w' = (w.alloc (.cells #[.int .u32 (a : Int)] 22)).alloc (.cells #[.int .u32 (n : Int)] 22) := by
  go_enter Try.func56, Try.ntmps56
  go_wp2
  go_ret
  exact ⟨rfl, rfl⟩
set_option maxRecDepth 100000 in
set_option maxHeartbeats 1000000 in
theorem pages1_in (F : Fence) (n : Nat) (h76 : F.fn 76) (hro : F.round = none) (hn : 1 ≤ n) (l A a sz : Nat) (hsz : a + sz ≤ 2147483648) (J Jx : List Pl → World → Prop)
    (hY : ∀ pre (x : Pl) W, J pre W → pre.length < cntP a sz → YieldAt F (n - 1) Try.prog l #[.int .u32 (x.1 : Int)] W fun e W' => (e = .returned (.bool true) ∧ J (pre ++ [x]) W' ∧ KpB A W W') ∨ (e = .returned (.bool false) ∧ Jx (pre ++ [x]) W'))
    (W : World) (hA0 : Boxed W A 22 (.int .u32 (a : Int))) (hA1 : Boxed W (A + 1) 22 (.int .u32 (sz : Int))) (h0 : J [] W) :
    CallsIn F n Try.prog 76 #[.func (.yield l) #[] #[], .pointer (some ⟨A, 0, none⟩), .pointer (some ⟨A + 1, 0, none⟩)] W fun e W' => (∃ v, e = .returned v) ∧ ((∃ xs : List Pl, vals xs = pgs a (cntP a sz) ∧ J xs W') ∨ (∃ pre : List Pl, vals pre <+: pgs a (cntP a sz) ∧ Jx pre W')) := by
  have HY := hidden hY
  have HA0 := hidden hA0
  have HA1 := hidden hA1
  have c0 := hA0.cell
  have c1 := hA1.cell
  have HJ0 := hidden h0
  have hst : ((a : Int) - (a : Int) % 256) % 4294967296 = ((pageOf a : Nat) : Int) := by unfold pageOf; omega
  clear hA0 hA1 hY h0
  refine callsIn_of_wp Try.func76 rfl h76 ?_ hro
  simp only [Try.ntmps76, List.size_toArray, List.length_cons, List.length_nil, Nat.reduceAdd, Nat.reduceSub, Array.replicate_succ, Array.replicate_zero, List.push_toArray, List.append_toArray, List.nil_append, List.cons_append]
  gi_wp2
  gi_loopw [4] (fun p wr => ∃ (k q : Nat) (pre : List Pl), q = pageOf a + 256 * k ∧ k ≤ cntP a sz ∧ p = .int .u32 (q : Int) ∧ vals pre = pgs a k ∧ J pre wr ∧ Boxed wr A 22 (.int .u32 (a : Int)) ∧ Boxed wr (A + 1) 22 (.int .u32 (sz : Int))) (fun p _ => a + sz + 256 - (intOf p).toNat)
  case atStart => exact ⟨0, pageOf a, [], by omega, by omega, by first | (simp; done) | (simp; unfold pageOf; omega), rfl, Hid.out HJ0, Hid.out HA0, Hid.out HA1⟩
  case round =>
    obtain ⟨k, q, pre, hq, hk, rfl, hv, hJ, hB0, hB1⟩ := hrel
    have d0 := hB0.cell
    have d1 := hB1.cell
    have hsum : ((a : Int) + (sz : Int)) % 4294967296 = (a : Int) + (sz : Int) := by omega
    have HV := hidden hv
    have HJ := hidden hJ
    have HB0 := hidden hB0
    have HB1 := hidden hB1
    have HQ := hidden hq
    have HK := hidden hk
    by_cases ht : q < a + sz
    · have ht2 : (q : Int) < (a : Int) + (sz : Int) := by omega
      have hkc : k < cntP a sz := by unfold cntP; unfold pageOf at hq; omega
      have hql : q < 4294967296 ∧ q % 256 = 0 := by unfold pageOf at hq; omega
      have hlen : pre.length < cntP a sz := by rw [← vals_len, hv, pgs_len]; exact hkc
      obtain ⟨fn, tmps, assign, body, hy, hR⟩ := Hid.out HY pre ⟨q, hql⟩ wr hJ hlen
      dsimp only at hy
      have HKC := hidden hkc
      have hq2 : ((q : Int) + 256) % 4294967296 = ((q + 256 : Nat) : Int) := by omega
      clear hv hJ hB0 hB1 hq hk hkc hlen ht
      gi_wp2
      refine hR.mono ?_
      rintro e W3 (⟨rfl, hJ3, hk3⟩ | ⟨rfl, hJx3⟩)
      · have HJ3 := hidden hJ3
        have HK3 := hidden hk3
        clear hJ3 hk3
        gi_wp2
        go_roundw
        case rel => first | exact ⟨k + 1, q + 256, pre ++ [⟨q, hql⟩], by have := Hid.out HQ; omega, Hid.out HKC, by simp, by rw [vals_snoc, Hid.out HV, pgs_succ, ← Hid.out HQ], Hid.out HJ3, (Hid.out HK3).1.trans (Hid.out HB0), (Hid.out HK3).2.trans (Hid.out HB1)⟩ | ((repeat apply Exists.intro); exact ⟨⟨k + 1, q + 256, pre ++ [⟨q, hql⟩], by have := Hid.out HQ; omega, Hid.out HKC, by simp, by rw [vals_snoc, Hid.out HV, pgs_succ, ← Hid.out HQ], Hid.out HJ3, (Hid.out HK3).1.trans (Hid.out HB0), (Hid.out HK3).2.trans (Hid.out HB1)⟩, rfl⟩)
        case measure => simp [intOf]; omega
      · gi_wp2
        refine bodyPost_ret (results_none rfl _ _ _) rfl ?_
        exact ⟨⟨_, rfl⟩, .inr ⟨pre ++ [⟨q, hql⟩], by rw [vals_snoc, Hid.out HV]; show pgs a k ++ [q] <+: _; rw [Hid.out HQ, ← pgs_succ]; exact pgs_pre a (Hid.out HKC), hJx3⟩⟩
    · have ht2 : ¬ (q : Int) < (a : Int) + (sz : Int) := by omega
      have hke : k = cntP a sz := by unfold cntP at hk ⊢; unfold pageOf at hq; omega
      have HKE := hidden hke
      clear hv hJ hB0 hB1 hq hk hke ht
      gi_wp2
      go_end0
      exact ⟨⟨_, rfl⟩, .inl ⟨pre, by rw [Hid.out HV, ← Hid.out HKE], Hid.out HJ⟩⟩
theorem pages_stops (F : Fence) (n : Nat) (h76 : F.fn 76) (hro : F.round = none) (hn : 1 ≤ n) (A a sz : Nat) (hsz : a + sz ≤ 2147483648) (w : World) (hA0 : Boxed w A 22 (.int .u32 (a : Int))) (hA1 : Boxed w (A + 1) 22 (.int .u32 (sz : Int))) :
    SeqStopsK F n Try.prog 76 #[.pointer (some ⟨A, 0, none⟩), .pointer (some ⟨A + 1, 0, none⟩)] (fun x : Pl => #[Value.int .u32 (x.1 : Int)]) (KpB A) (fun ss => vals ss = pgs a (cntP a sz)) (fun ss => vals ss <+: pgs a (cntP a sz)) (cntP a sz) w := fun l J Jx W hW hJ _ hY h0 =>
  pages1_in F n h76 hro hn l A a sz hsz J Jx hY W ((hW.block A hA0.lt).trans hA0) ((hW.block (A + 1) hA1.lt).trans hA1) h0
end Go.Proofs.Ytpknppicamefgaa
