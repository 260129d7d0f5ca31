/- What a memory's reading calls answer. -/
import Derived.Test.YtodoenimlhldjaaQMAD
import Derived.Deep.QuietTactic
import Derived.BigQuiet
import Derived.Outline
import Derived.StillTail
namespace Go.Proofs.Ytodoenimlhldjaa
open Go.ChangeShapes Go.WideShapes Go.ChangeAt Go.RowKit
set_option linter.unusedVariables false
theorem drewN_two {w w1 : World} {n : Nat} (h : w1 = w.drewN n) (m : Nat) : ∃ k, w1.drewN m = w.drewN k := ⟨n + m, by rw [h, World.drewN_drewN]⟩
theorem first_any (a : Nat) (h : a < 4294967296) (w : World) : Calls Try.prog 74 #[.int .u32 (a : Int)] w fun e w' => e = .returned (.int .u32 (pageOf a : Int)) ∧ w' = w := by
  have e : Ending.returned (.int .u32 ((pageOf a : Nat) : Int)) = .returned (.int .u32 ((a : Int) - (a : Int) % 256)) := ret_int (by unfold pageOf; omega)
  rw [e]
  clear e
  go_enter Try.func74, Try.ntmps74
  go_wp2
  go_ret
  exact ⟨rfl, rfl⟩
theorem within_any (a : Nat) (h : a < 4294967296) (w : World) : Calls Try.prog 60 #[.int .u32 (a : Int)] w fun e w' => e = .returned (.int .i64 ((a % 256 : Nat) : Int)) ∧ w' = w := by
  have e : Ending.returned (.int .i64 ((a % 256 : Nat) : Int)) = .returned (.int .i64 ((a : Int) % 256)) := ret_int (by omega)
  rw [e]
  clear e
  go_enter Try.func60, Try.ntmps60
  go_wp2
  go_ret
  exact ⟨rfl, rfl⟩
theorem find_in (w : World) (s : MS) (a : Nat) (h : MemW w s) (ha : a < 4294967296) (hk : pageOf a ∈ s.ks) : Calls Try.prog 53 #[.pointer (some ⟨s.mb, 0, none⟩), .int .u32 (a : Int)] w fun e w' => e = .returned (.pointer (some ⟨s.hb (pageOf a), 0, none⟩)) ∧ ∃ n, w' = w.drewN n := by
  have hc := h.cell0
  have hl := fun n => run_look_in (w := w.drewN n) h.map hk
  have H := fun w => hidden (first_any a ha w)
  clear h hk ha
  generalize pageOf a = k at hl H
  go_enter Try.func53, Try.ntmps53
  go_wp2
  go_quiet ((go_at_call 74; exact Calls.quiet_of_same (Hid.out (H _))))
  go_wp2
  go_ret
  exact ⟨rfl, _, rfl⟩
theorem find_out (w : World) (s : MS) (a : Nat) (h : MemW w s) (ha : a < 4294967296) (hk : pageOf a ∉ s.ks) : Calls Try.prog 53 #[.pointer (some ⟨s.mb, 0, none⟩), .int .u32 (a : Int)] w fun e w' => e = .returned (.pointer none) ∧ ∃ n, w' = w.drewN n := by
  have hc := h.cell0
  have hl := fun n => run_look_out (w := w.drewN n) h.map hk
  have H := fun w => hidden (first_any a ha w)
  clear h hk ha
  generalize pageOf a = k at hl H
  go_enter Try.func53, Try.ntmps53
  go_wp2
  go_quiet ((go_at_call 74; exact Calls.quiet_of_same (Hid.out (H _))))
  go_wp2
  go_ret
  exact ⟨rfl, _, rfl⟩
def MS.perm (s : MS) (a : Nat) : Int := if pageOf a ∈ s.ks then s.pm (pageOf a) else 0
theorem permOf_any (w : World) (s : MS) (a : Nat) (h : MemW w s) (ha : a < 4294967296) : Calls Try.prog 25 #[.pointer (some ⟨s.mb, 0, none⟩), .int .u32 (a : Int)] w fun e w' => e = .returned (.int .i64 (s.perm a)) ∧ ∃ n, w' = w.drewN n := by
  by_cases hk : pageOf a ∈ s.ks
  · have e : s.perm a = s.pm (pageOf a) := by unfold MS.perm; rw [if_pos hk]
    rw [e]
    have H := hidden (find_in w s a h ha hk)
    have hc := h.held0 hk
    obtain ⟨c, _, _, hp⟩ := h.page _ hk
    have H2 := fun n => hidden (perm_any (w.drewN n) _ _ _ _ (hp.same rfl))
    clear h hk ha e hp
    generalize pageOf a = k at hc H H2
    go_enter Try.func25, Try.ntmps25
    go_wp2_with (first | (go_at_call 53; refine (Hid.out H).mono ?_; rintro e w1 ⟨rfl, n, hww⟩; rw [hww]; clear hww w1) | (go_at_call 54; refine (Hid.out (H2 _)).mono ?_; rintro e w1 ⟨rfl, hww⟩; rw [hww]; clear hww w1))
    go_ret
    exact ⟨rfl, _, rfl⟩
  · have e : s.perm a = 0 := by unfold MS.perm; rw [if_neg hk]
    rw [e]
    have H := hidden (find_out w s a h ha hk)
    clear h hk ha e
    go_enter Try.func25, Try.ntmps25
    go_wp2_with (go_at_call 53; refine (Hid.out H).mono ?_; rintro e w1 ⟨rfl, n, hww⟩; rw [hww]; clear hww w1)
    go_ret
    exact ⟨rfl, _, rfl⟩
theorem getB_nat (l : List UInt8) (j : Nat) (h : j < 256) : getB l (j : Int) = l.getD j 0 := by
  unfold getB
  rw [if_pos ⟨by omega, by omega⟩, Int.toNat_natCast]
theorem peek_any (w : World) (s : MS) (a : Nat) (h : MemW w s) (ha : a < 4294967296) : Calls Try.prog 50 #[.pointer (some ⟨s.mb, 0, none⟩), .int .u32 (a : Int)] w fun e w' => e = .returned (.int .u8 ((s.get a).toNat : Int)) ∧ ∃ n, w' = w.drewN n := by
  by_cases hk : pageOf a ∈ s.ks
  · have e : s.get a = (s.data (pageOf a)).getD (a % 256) 0 := by unfold MS.get; rw [if_pos hk]
    rw [e]
    have H := hidden (find_in w s a h ha hk)
    have H3 := fun w => hidden (within_any a ha w)
    obtain ⟨c, _, _, hp⟩ := h.page _ hk
    have HC : Hid (∀ w1 n, w1 = w.drewN n → w1.cell? ⟨s.hb (pageOf a), 0, none⟩ = some (.pointer (some ⟨s.pb (pageOf a), 0, none⟩)) ∧ Pg 127 w1 (s.pb (pageOf a)) (s.data (pageOf a)) (s.pm (pageOf a)) c) := by
      intro w1 n e
      subst e
      exact ⟨h.held0 hk, hp.same rfl⟩
    have H2 : Hid (∀ w1, Pg 127 w1 (s.pb (pageOf a)) (s.data (pageOf a)) (s.pm (pageOf a)) c → Calls Try.prog 70 #[.pointer (some ⟨s.pb (pageOf a), 0, none⟩), .int .i64 ((a % 256 : Nat) : Int)] w1 fun e w' => e = .returned (.int .u8 (((s.data (pageOf a)).getD (a % 256) 0).toNat : Int)) ∧ w' = w1) := by
      intro w1 hp1
      have := byte_any w1 _ _ _ _ ((a % 256 : Nat) : Int) hp1
      rw [getB_nat _ _ (Nat.mod_lt _ (by omega))] at this
      exact this
    clear h hk ha e hp
    generalize a % 256 = j at H3 H2
    generalize pageOf a = k at H H2 HC
    generalize (s.data k).getD j 0 = x at H2
    go_enter Try.func50, Try.ntmps50
    go_wp2_with (go_at_call 53; refine (Hid.out H).mono ?_; rintro e w1 ⟨rfl, n, hww⟩; obtain ⟨hc, hp1⟩ := Hid.out HC w1 n hww; have HP := hidden hp1; have HW := hidden hww; clear hww hp1 HC)
    go_quiet (first | (go_at_call 60; exact Calls.quiet_of_same (Hid.out (H3 _))) | (go_at_call 70; exact Calls.quiet_of_same (Hid.out H2 _ (Pg.same (Hid.out HP) rfl))))
    go_wp2
    go_ret
    exact ⟨rfl, drewN_two (Hid.out HW) _⟩
  · have e : s.get a = 0 := by unfold MS.get; rw [if_neg hk]
    rw [e]
    have H := hidden (find_out w s a h ha hk)
    clear h hk ha e
    go_enter Try.func50, Try.ntmps50
    go_wp2_with (go_at_call 53; refine (Hid.out H).mono ?_; rintro e w1 ⟨rfl, n, hww⟩; rw [hww]; clear hww w1)
    go_ret
    exact ⟨rfl, _, rfl⟩
def MS.watched (s : MS) (a : Nat) : Bool := decide (pageOf a ∈ s.ks) && s.on (pageOf a)
end Go.Proofs.Ytodoenimlhldjaa
namespace Go.Proofs.Ytodoenimlhldjaa
open Go Go.RowKit
set_option linter.unusedVariables false
section
variable {P : Program} {ops : Array Oper} {md : Region.Mode} {C : World → Prop}
/-- So many rounds of the head, whatever is picked; then J. -/
def headAny (P : Program) (md : Region.Mode) (ops : Array Oper) (C : World → Prop) (n : Nat) (J : Array Bool → Act → Prop) : Nat → Array Bool → Act → Prop
  | 0, L, a => J L a
  | f + 1, L, a => Region.ready md ops L ≠ [] ∧ ∀ i ∈ Region.ready md ops L, i < n ∧ qOp P ops C i (headAny P md ops C n J f (L.setIfInBounds i true)) a
theorem any_of_head {n g : Nat} {J : Array Bool → Act → Prop} {Q : Exit → Act → World → Prop} (hJ : ∀ L a w, C w → J L a → wpAny P md ops Q g L a w) :
    ∀ (f : Nat) (L : Array Bool) (a : Act) (w : World), C w → headAny P md ops C n J f L a → wpAny P md ops Q (f + g) L a w := by
  intro f
  induction f with
  | zero =>
    intro L a w hw h
    rw [Nat.zero_add]
    exact hJ L a w hw h
  | succ f ih =>
    intro L a w hw h
    rw [show f + 1 + g = (f + g) + 1 by omega]
    exact ⟨fun h0 => absurd h0 h.1, fun i hi => wpOp_of_qOp hw (fun a' w' hw' h' => ih _ a' w' hw' h') (h.2 i hi).2⟩
/-- What may come up now may as well come first. -/
theorem head_first {n i : Nat} {oi : Oper} {v : Value} {J : Array Bool → Act → Prop} (hi : ops[i]? = some oi) (hsel : Region.noSelect ops = true) (hs : Region.sinkB md ops n = true) (hc : Region.chainB md ops n = true) (hn : n < ops.size) (hin : i < n)
    (hdone : ∀ L a, J L a → ∀ j ∈ Region.ready md ops L, n ≤ j) : ∀ (f : Nat) (L : Array Bool) (a : Act), HeadInv md ops n L →
      (∀ j oj, ops[j]? = some oj → j ≠ i → L.getD j true = false → (∀ e ∈ oj.after, Region.binds md e = true → e.on ≠ i) → oi.apart ops oj = true) →
      i ∈ Region.ready md ops L → YieldsIn P ops C oi v a → headAny P md ops C n J f (L.setIfInBounds i true) (a.put oi.dst v) → headAny P md ops C n J (f + 1) L a := by
  have nosel := Region.noSelect_spec hsel
  intro f
  induction f with
  | zero =>
    intro L a inv hfree hr hy H
    have hun := (mem_ready.1 hr).1
    refine ⟨fun h => (by rw [h] at hr; cases hr), fun j hj => ?_⟩
    have hjn : j < n := Nat.lt_of_not_le fun h => tail_waits hs hc hn inv _ i rfl hin hun j h hj
    refine ⟨hjn, ?_⟩
    by_cases e : j = i
    · subst e
      exact hy.qOp hi H
    · exact absurd (hdone _ _ H j (ready_mono hj e)) (by omega)
  | succ f ih =>
    intro L a inv hfree hr hy H
    have hun := (mem_ready.1 hr).1
    refine ⟨fun h => (by rw [h] at hr; cases hr), fun j hj => ?_⟩
    have hjn : j < n := Nat.lt_of_not_le fun h => tail_waits hs hc hn inv _ i rfl hin hun j h hj
    refine ⟨hjn, ?_⟩
    by_cases e : j = i
    · subst e
      exact hy.qOp hi H
    · obtain ⟨hjun, oj, hoj, hall⟩ := mem_ready.1 hj
      have hnot : ∀ x ∈ oj.after, Region.binds md x = true → x.on ≠ i := by
        intro x hx hb hon
        have h1 := hall x hx hb
        rw [hon, getD_both hun] at h1
        cases h1
      have h2 := qOp_put hoj (hfree j oj hoj e hjun hnot) (fun cs b => nosel i oi cs b hi) (fun cs b => nosel j oj cs b hoj) hy (H.2 j (ready_mono hj e)).2
      refine qOp_mono (fun a' h3 => ih (L.setIfInBounds j true) a' (inv.set hj hjn) ?_ (ready_mono hr (Ne.symm e)) h3.1 ?_) h2
      · intro k ok hk hki hunk hno
        refine hfree k ok hk hki ?_ hno
        by_cases hjk : j = k
        · subst hjk
          exact hjun
        · rw [getD_set_ne true hjk] at hunk
          exact hunk
      · rw [Array.setIfInBounds_comm _ _ e]
        exact h3.2
theorem head_lex {n g : Nat} {J : Act → Prop} (hsel : Region.noSelect ops = true) (hs : Region.sinkB md ops n = true) (hc : Region.chainB md ops n = true) (hn : n < ops.size) :
    ∀ (l : List Oper) (k : Nat) (L : Array Bool) (a : Act), (∀ j, j < l.length → l[j]? = ops[k + j]?) → k + l.length = n → HeadInv md ops n L → Region.lexHead md ops g l.length k L = true → wpQuiet P ops C J l a →
      headAny P md ops C n (fun L' a' => Region.seqB md ops g n L' = true ∧ J a') l.length L a := by
  intro l
  induction l with
  | nil =>
    intro k L a _ hk _ hB h
    obtain rfl : k = n := by simpa using hk
    exact ⟨by simpa [Region.lexHead] using hB, h⟩
  | cons o l ih =>
    intro k L a hl hk inv hB h
    have h0 : ops[k]? = some o := by simpa using (hl 0 (by simp)).symm
    have hkn : k < n := by simp only [List.length_cons] at hk; omega
    simp only [List.length_cons, Region.lexHead, Bool.and_eq_true] at hB
    have hr : k ∈ Region.ready md ops L := by simpa using hB.1.1
    have hq : qOp P ops C k (wpQuiet P ops C J l) a := by unfold qOp; simp only [h0]; exact h
    obtain ⟨v, hy, hK⟩ := yieldsIn_of_qOp h0 hq
    refine head_first h0 hsel hs hc hn hkn (fun L' a' hJ => seqB_ready hJ.1) l.length L a inv (Region.free_spec h0 hB.1.2) hr hy ?_
    refine ih (k + 1) _ _ (fun j hj => ?_) (by simp only [List.length_cons] at hk; omega) (inv.set hr hkn) hB.2 hK
    have := hl (j + 1) (by simp; omega)
    simpa [Nat.add_assoc, Nat.add_comm 1 j] using this
/-- The first n only read; the others come behind them, one by one. -/
theorem wp_region_tail {id : Nat} {Q : Exit → Act → World → Prop} {a : Act} {w : World} {l : List Oper} (n : Nat) (hm : P.follows .mixedOrders = true) (hB : Region.lexTailB .any l.toArray n = true)
    (h : wpQuiet P l.toArray (fun w' => ∃ m, w' = w.drewN m) (fun a' => ∀ w', (∃ m, w' = w.drewN m) → wpList P l.toArray Q (l.drop n) a' w') (l.take n) a) : (Code.region id l.toArray true).wp P Q a w := by
  simp only [Region.lexTailB, Bool.and_eq_true, decide_eq_true_eq] at hB
  obtain ⟨⟨⟨⟨hsel, hn⟩, hs⟩, hc⟩, hlex⟩ := hB
  have hn' : n < l.length := by simpa using hn
  have htl : (l.take n).length = n := by simp; omega
  have hdl : (l.drop n).length = l.toArray.size - n := by simp
  have inv0 : HeadInv .any l.toArray n (Array.replicate l.toArray.size false) :=
    ⟨by simp, fun j oj _ hl => (by rw [getD_replicate_false] at hl; cases hl), fun t _ ht => getD_in (by simpa using ht) (getD_replicate_false _ _)⟩
  have H := head_lex (C := fun w' => ∃ m, w' = w.drewN m) (md := .any) (g := l.toArray.size - n) hsel hs hc hn (l.take n) 0 _ a (fun j hj => by
    have hj' : j < n := by rw [htl] at hj; exact hj
    simp [hj']) (by simpa using htl) inv0 (by rw [htl]; exact hlex) h
  refine wp_region_any hm ?_
  have := any_of_head (Q := Q) (g := l.toArray.size - n) (fun L a' w' hw' hJ => by
    have := wpAny_of_seq (md := .any) (Q' := Q) (l.drop n) n L a' w' (fun j => by simp [List.getElem?_drop]) (by rw [hdl]; exact hJ.1) (hJ.2 w' hw')
    rwa [hdl] at this) _ _ _ _ ⟨1, rfl⟩ H
  rw [htl, show n + (l.toArray.size - n) = l.toArray.size by omega] at this
  exact this
end
end Go.Proofs.Ytodoenimlhldjaa
namespace Go.Proofs.Ytodoenimlhldjaa
open Go.ChangeShapes Go.WideShapes Go.ChangeAt Go.RowKit
set_option linter.unusedVariables false
def fresh (mb bm most : Nat) : MS := { mb := mb, bm := bm, ks := [], hb := fun _ => 0, pb := fun _ => 0, data := fun _ => [], pm := fun _ => 0, on := fun _ => false, most := most, tv := .slice none 0 0, ts := [], c := 0 }
def cutMost (z : Int) : Nat := (min (max z 0) 64).toNat
theorem build67 (b : Nat) (x : Int) (w : World) : (Instr.build 93 #[(0, .map (some b)), (2, .int .i64 x)]).run Try.prog w = .ok (.agg #[.map (some b), .int .i64 0, .int .i64 x, .slice none 0 0]) w := by kernel_rfl
theorem fresh_memW (w : World) (most : Nat) (h : most ≤ 64) : MemW ((w.alloc (.map #[] 0)).alloc (.cells #[.map (some w.heap.size), .int .i64 0, .int .i64 (most : Int), .slice none 0 0] 93)) (fresh (w.heap.size + 1) w.heap.size most) := by
  have hs : (w.alloc (.map #[] 0)).heap.size = w.heap.size + 1 := by simp
  refine ⟨?_, ?_, by simp [fresh], by simp [fresh], by simp [fresh], by simp [fresh], by simp [fresh], by simp [fresh], by simp [fresh], by simp [fresh], h, World.ownsRow_nil _ _ _ _, by simp [fresh]⟩
  · have := heap_alloc_new (w.alloc (.map #[] 0)) (.cells #[.map (some w.heap.size), .int .i64 0, .int .i64 (most : Int), .slice none 0 0] 93)
    rw [hs] at this
    exact this
  · rw [heap_alloc_old _ _ (by rw [hs]; show w.heap.size < _; omega)]
    exact heap_alloc_new w _
theorem newMem_any (z : Int) (w : World) : Calls Try.prog 26 #[.int .i64 z] w fun e w' => e = .returned (.pointer (some ⟨w.heap.size + 1, 0, none⟩)) ∧ MemW w' (fresh (w.heap.size + 1) w.heap.size (cutMost z)) ∧ Below w.heap.size w w' := by
  have hmm := @run_makeMap Try.prog
  have hm := fresh_memW w (cutMost z) (by unfold cutMost; omega)
  have hv : Value.int .i64 ((cutMost z : Nat) : Int) = .int .i64 (min (max z 0) 64) := by unfold cutMost; congr 1; omega
  rw [hv] at hm
  have HM := hidden hm
  clear hm hv
  have hb := build67
  by_cases h0 : z < 0
  · have e : min (max z 0) 64 = 0 := by omega
    rw [e] at HM
    clear e
    go_enter Try.func26, Try.ntmps26
    go_wp2
    go_ret
    exact ⟨rfl, Hid.out HM, ((Below.refl _ w).alloc (Nat.le_refl _) _).alloc (by simp) _⟩
  · by_cases h1 : 64 < z
    · have e : min (max z 0) 64 = 64 := by omega
      rw [e] at HM
      clear e
      go_enter Try.func26, Try.ntmps26
      go_wp2
      go_ret
      exact ⟨rfl, Hid.out HM, ((Below.refl _ w).alloc (Nat.le_refl _) _).alloc (by simp) _⟩
    · have e : min (max z 0) 64 = z := by omega
      rw [e] at HM
      clear e
      go_enter Try.func26, Try.ntmps26
      go_wp2
      go_ret
      exact ⟨rfl, Hid.out HM, ((Below.refl _ w).alloc (Nat.le_refl _) _).alloc (by simp) _⟩
theorem load_at (w : World) (b j : Nat) (n : Int) (hc : w.cell? ⟨b, j, none⟩ = some (.int .i64 n)) : Calls Try.prog 56 #[.pointer (some ⟨b, j, none⟩)] w fun e w' => e = .returned (.int .i64 n) ∧ w' = w := by
  have hl := run_call_load (P := Try.prog) Try.func75 (by kernel_rfl) (by kernel_rfl) (by kernel_rfl) .i64 (by kernel_rfl) hc
  go_enter Try.func56, Try.ntmps56
  go_wp2
  go_ret
  exact ⟨rfl, rfl⟩
theorem add_at (w : World) (b j : Nat) (n : Int) (h0 : 0 ≤ n) (h1 : n < 9223372036854775807) (hc : w.cell? ⟨b, j, none⟩ = some (.int .i64 n)) (hz : w.frozen? ⟨b, j, none⟩ = false) : Calls Try.prog 76 #[.pointer (some ⟨b, j, none⟩), .int .i64 1] w fun e w' => e = .returned (.int .i64 (n + 1)) ∧ w' = w.setCell ⟨b, j, none⟩ (.int .i64 (n + 1)) := by
  have hl := run_call_add (P := Try.prog) Try.func84 (by kernel_rfl) (by kernel_rfl) (by kernel_rfl) .i64 (by kernel_rfl) (y := 1) (s := n + 1) hc hz (by simp [go_sem, IntKind.wrap_i64]; omega)
  go_enter Try.func76, Try.ntmps76
  go_wp2
  go_ret
  exact ⟨rfl, rfl⟩
/-- A page laid where there was none. -/
def MS.lay (s : MS) (k hbn pbn : Nat) (data : List UInt8) (perm : Int) (on : Bool) : MS :=
  { s with ks := s.ks ++ [k], hb := upd s.hb k hbn, pb := upd s.pb k pbn, data := upd s.data k data, pm := upd s.pm k perm, on := upd s.on k on }
/-- What is held, and its page, by themselves. -/
structure Held (w : World) (hbn pbn : Nat) (data : List UInt8) (perm : Int) (on : Bool) (c : Nat) : Prop where
  blk : w.heap[hbn]? = some (.cells #[.pointer (some ⟨pbn, 0, none⟩), .bool on] 107 (0, 0))
  page : ∃ n : Int, 0 ≤ n ∧ n ≤ (c : Int) ∧ Pg 127 w pbn data perm n
  perm : 0 ≤ perm ∧ perm < 8
theorem lay_memW {w : World} {s : MS} {k hbn pbn : Nat} {data : List UInt8} {perm : Int} {on : Bool} (h : MemW w s) (hk : k ∉ s.ks) (hkk : k < 4294967296 ∧ k % 256 = 0) (hH : Held w hbn pbn data perm on s.c) (hroom : s.ks.length < s.most) (hf1 : ¬ foot s hbn) (hf2 : ¬ foot s pbn) (m : Nat) :
    MemW ((ChangeMaps.setBlock (w.drewN m) s.bm (mapObj (upd s.hb k hbn) (s.ks ++ [k]))).setCell ⟨s.mb, 1, none⟩ (.int .i64 ((s.ks.length : Int) + 1))) (s.lay k hbn pbn data perm on) := by
  have hm : (w.drewN m).heap[s.bm]? = some (mapObj s.hb s.ks) := h.map
  have hset := MapKept.heap_set (o' := mapObj (upd s.hb k hbn) (s.ks ++ [k])) hm
  have hself : (ChangeMaps.setBlock (w.drewN m) s.bm (mapObj (upd s.hb k hbn) (s.ks ++ [k]))).heap[s.mb]? = some (.cells (mcells s) 93 (0, 0)) := (hset.2 s.mb h.mb_ne_bm).trans h.self
  have hne1 : hbn ≠ s.mb := fun e => hf1 (.inl e)
  have hne2 : hbn ≠ s.bm := fun e => hf1 (.inr (.inl e))
  have hne3 : pbn ≠ s.mb := fun e => hf2 (.inl e)
  have hne4 : pbn ≠ s.bm := fun e => hf2 (.inr (.inl e))
  have out : ∀ b, b ≠ s.mb → b ≠ s.bm → ((ChangeMaps.setBlock (w.drewN m) s.bm (mapObj (upd s.hb k hbn) (s.ks ++ [k]))).setCell ⟨s.mb, 1, none⟩ (.int .i64 ((s.ks.length : Int) + 1))).heap[b]? = w.heap[b]? := by
    intro b h1 h2
    rw [Below.heap_setCell _ _ _ _ h1]
    exact hset.2 b h2
  have hmem : ∀ j, j ∈ s.ks ++ [k] → j ≠ k → j ∈ s.ks := by
    intro j hj hne
    simpa [hne] using hj
  refine ⟨?_, ?_, ?_, ?_, ?_, ?_, ?_, ?_, ?_, ?_, h.great, ?_, h.few⟩
  · rw [show (s.lay k hbn pbn data perm on).mb = s.mb from rfl, heap_setCell_same _ _ _ _ _ _ hself]
    simp [mcells, MS.lay]
  · rw [show (s.lay k hbn pbn data perm on).bm = s.bm from rfl, Below.heap_setCell _ _ _ _ h.mb_ne_bm.symm]
    exact hset.1
  · intro j hj
    by_cases e : j = k
    · subst e
      rw [show (s.lay j hbn pbn data perm on).hb j = hbn from upd_same _ _ _, out _ hne1 hne2, hH.blk]
      simp [hcells, MS.lay, upd]
    · have hj' := hmem j hj e
      rw [show (s.lay k hbn pbn data perm on).hb j = s.hb j from upd_other _ _ e, out _ (h.hb_ne_mb hj') (h.hb_ne_bm hj'), h.held j hj']
      simp [hcells, MS.lay, upd, e]
  · intro j hj
    by_cases e : j = k
    · subst e
      obtain ⟨n, h0, h1, hp⟩ := hH.page
      refine ⟨n, h0, h1, ?_⟩
      simp only [MS.lay, upd_same]
      exact hp.same (out _ hne3 hne4)
    · have hj' := hmem j hj e
      obtain ⟨n, h0, h1, hp⟩ := h.page j hj'
      refine ⟨n, h0, h1, ?_⟩
      simp only [MS.lay, upd_other _ _ e]
      exact hp.same (out _ (h.pb_ne_mb hj') (h.pb_ne_bm hj'))
  · exact List.nodup_append.2 ⟨h.nodup, by simp, fun a ha b hb => by simp at hb; subst hb; intro e; exact hk (e ▸ ha)⟩
  · intro i hi j hj e
    by_cases e1 : i = k
    · by_cases e2 : j = k
      · rw [e1, e2]
      · subst e1
        simp only [MS.lay, upd_same, upd_other _ _ e2] at e
        exact absurd (.inr (.inr (.inl ⟨j, hmem j hj e2, e⟩))) hf1
    · by_cases e2 : j = k
      · subst e2
        simp only [MS.lay, upd_same, upd_other _ _ e1] at e
        exact absurd (.inr (.inr (.inl ⟨i, hmem i hi e1, e.symm⟩))) hf1
      · simp only [MS.lay, upd_other _ _ e1, upd_other _ _ e2] at e
        exact h.hbi i (hmem i hi e1) j (hmem j hj e2) e
  · intro i hi j hj e
    by_cases e1 : i = k
    · by_cases e2 : j = k
      · rw [e1, e2]
      · subst e1
        simp only [MS.lay, upd_same, upd_other _ _ e2] at e
        exact absurd (.inr (.inr (.inr (.inl ⟨j, hmem j hj e2, e⟩)))) hf2
    · by_cases e2 : j = k
      · subst e2
        simp only [MS.lay, upd_same, upd_other _ _ e1] at e
        exact absurd (.inr (.inr (.inr (.inl ⟨i, hmem i hi e1, e.symm⟩)))) hf2
      · simp only [MS.lay, upd_other _ _ e1, upd_other _ _ e2] at e
        exact h.pbi i (hmem i hi e1) j (hmem j hj e2) e
  · intro j hj
    by_cases e : j = k
    · rw [e]; exact hkk
    · exact h.key j (hmem j hj e)
  · intro j hj
    by_cases e : j = k
    · subst e
      simp only [MS.lay, upd_same]
      exact hH.perm
    · simp only [MS.lay, upd_other _ _ e]
      exact h.perm j (hmem j hj e)
  · simp only [MS.lay, List.length_append, List.length_singleton]
    omega
  · refine ownsRow_same h.touched fun g hg => ?_
    exact out g (h.tv_ne_mb hg) (h.tv_ne_bm hg)
theorem addPage_any (w : World) (s : MS) (a hbn pbn : Nat) (data : List UInt8) (perm : Int) (on : Bool) (h : MemW w s) (ha : a < 4294967296) (hk : pageOf a ∉ s.ks) (hH : Held w hbn pbn data perm on s.c) (hroom : s.ks.length < s.most) (hf1 : ¬ foot s hbn) (hf2 : ¬ foot s pbn) :
    Calls Try.prog 57 #[.pointer (some ⟨s.mb, 0, none⟩), .int .u32 (a : Int), .pointer (some ⟨hbn, 0, none⟩)] w fun e w' => e = .returned (.tuple #[]) ∧ MemW w' (s.lay (pageOf a) hbn pbn data perm on) ∧ Keep (fun b => b = s.mb ∨ b = s.bm) w w' := by
  have hc := h.cell0
  have hl := fun n => run_lay (w := w.drewN n) h.map hk hbn
  have H := fun w => hidden (first_any a ha w)
  have HF := fun m => hidden (lay_memW h hk ⟨Nat.lt_of_le_of_lt (pageOf_le a) ha, pageOf_mod a⟩ hH hroom hf1 hf2 m)
  have HK : Hid (∀ m, Keep (fun b => b = s.mb ∨ b = s.bm) w ((ChangeMaps.setBlock (w.drewN m) s.bm (mapObj (upd s.hb (pageOf a) hbn) (s.ks ++ [pageOf a]))).setCell ⟨s.mb, 1, none⟩ (.int .i64 ((s.ks.length : Int) + 1)))) := by
    intro m
    have h1 : Keep (· = s.bm) w (ChangeMaps.setBlock (w.drewN m) s.bm (mapObj (upd s.hb (pageOf a) hbn) (s.ks ++ [pageOf a]))) := ((Keep.refl (· = s.bm) w).drewN m).trans (keep_setBlock (w := w.drewN m) (o := mapObj s.hb s.ks) h.map _) (fun _ _ e => e)
    exact (h1.mono (fun _ _ e => .inr e)).trans (keep_setCell _ _ _ _) (fun _ _ e => .inl e)
  have hset : ∀ m, (ChangeMaps.setBlock (w.drewN m) s.bm (mapObj (upd s.hb (pageOf a) hbn) (s.ks ++ [pageOf a]))).heap[s.mb]? = some (.cells (mcells s) 93 (0, 0)) := fun m => ((MapKept.heap_set (w := w.drewN m) h.map).2 s.mb h.mb_ne_bm).trans h.self
  have HA := fun m => hidden (add_at (ChangeMaps.setBlock (w.drewN m) s.bm (mapObj (upd s.hb (pageOf a) hbn) (s.ks ++ [pageOf a]))) s.mb 1 (s.ks.length : Int) (by omega) (by have := h.room; have := h.great; omega) (by rw [cell_of_row _ _ _ _ _ _ (hset m)]; rfl) (frozen_of_row _ _ _ _ _ (hset m)))
  clear h hk ha hset
  generalize pageOf a = k at hl H HF HK HA
  go_enter Try.func57, Try.ntmps57
  go_wp2
  refine wp_region_tail 7 (by kernel_rfl) (by kernel_rfl) ?_
  simp only [List.take_succ_cons, List.take_zero, List.drop_succ_cons, List.drop_zero]
  repeat (go_big_quiet_step ((go_at_call 74; exact Calls.quiet_of_same (Hid.out (H _)))))
  refine wpQuiet_nil ?_
  rintro _ ⟨nq, rfl⟩
  go_wp2_with (go_at_call 76; refine (Hid.out (HA _)).mono ?_; rintro e w1 ⟨rfl, hww⟩; rw [hww]; clear hww w1)
  go_end0
  exact ⟨rfl, Hid.out (HF _), Hid.out HK _⟩
end Go.Proofs.Ytodoenimlhldjaa
