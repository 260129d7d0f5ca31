/- Chapter 5's own memory: Map, where the page is there, and where there is no room. -/
import Derived.Test.YtkpcajmphhdmiaaRMAR
import Derived.Deep.Cut
import Derived.Maps.AppendAt
import Derived.Deep.MidRow
import Derived.Deep.Upon
namespace Go.Proofs.Ytkpcajmphhdmiaa
open Go.ChangeShapes Go.WideShapes Go.ChangeAt Go.RowKit
set_option linter.unusedVariables false
def allow5 (p : P5) (z : Int) : P5 := { p with perm := bits .or .i64 p.perm (bits .and .i64 z 7) }
theorem allow5_fit {p : P5} (h : Fit5 p) (z : Int) : Fit5 (allow5 p z) := ⟨h.lb, h.la⟩
theorem allow5_one (p : P5) (z : Int) : one5 (allow5 p z) = (one5 p).set 1 (.int .i64 (bits .or .i64 p.perm (bits .and .i64 z 7))) := rfl
set_option maxRecDepth 20000 in
set_option maxHeartbeats 8000000 in
theorem map5_there (w : World) (m g off cap n k a : Nat) (pm z : Int) (hC : Calls Try.prog 58 #[.pointer (some ⟨m, 0, none⟩), .int .u32 (a : Int)] w fun e w' => e = .returned (.int .i64 (k : Int)) ∧ w' = w) (hP : w.cell? ⟨m, 1, none⟩ = some (.slice (some ⟨g, off, none⟩) n cap)) (hB : w.cell? ⟨g, off + k * 259 + 1, none⟩ = some (.int .i64 pm)) (hz : w.frozen? ⟨g, off + k * 259 + 1, none⟩ = false) (hne : ¬ m = g) (hkn : k < n) :
    Calls Try.prog 31 #[.pointer (some ⟨m, 0, none⟩), .int .u32 (a : Int), .int .i64 z] w fun e w' => e = .returned (.int .i64 0) ∧ ∃ r, w' = (w.drewN r).setCell ⟨g, off + k * 259 + 1, none⟩ (.int .i64 (bits .or .i64 pm (bits .and .i64 z 7))) := by
  have C := hidden hC
  clear hC
  have hne' : ¬ g = m := fun e => hne e.symm
  have hk0 : (0 : Int) ≤ (k : Int) := by omega
  go_enter Try.func31, Try.ntmps31
  go_wp2_with (first | (go_at_call 58; refine (Hid.out C).mono ?_; rintro e w4 ⟨rfl, hww⟩; rw [hww]; clear hww w4))
  go_region
  all_goals go_wp2
  go_ret
  exact ⟨rfl, _, rfl⟩
set_option maxRecDepth 20000 in
set_option maxHeartbeats 8000000 in
theorem map5_full (w : World) (m cap n most a : Nat) (ao : Option Addr) (z : Int) (hC : Calls Try.prog 58 #[.pointer (some ⟨m, 0, none⟩), .int .u32 (a : Int)] w fun e w' => e = .returned (.int .i64 (-1)) ∧ w' = w) (hP : w.cell? ⟨m, 1, none⟩ = some (.slice ao n cap)) (h0 : w.cell? ⟨m, 0, none⟩ = some (.int .i64 (most : Int))) (hfull : most ≤ n) :
    Calls Try.prog 31 #[.pointer (some ⟨m, 0, none⟩), .int .u32 (a : Int), .int .i64 z] w fun e w' => e = .returned (.int .i64 2) ∧ ∃ r, w' = w.drewN r := by
  have C := hidden hC
  clear hC
  have hf2 : (most : Int) ≤ (n : Int) := by omega
  go_enter Try.func31, Try.ntmps31
  go_wp2_with (first | (go_at_call 58; refine (Hid.out C).mono ?_; rintro e w4 ⟨rfl, hww⟩; rw [hww]; clear hww w4))
  go_region
  all_goals go_wp2
  go_ret
  exact ⟨rfl, _, rfl⟩
end Go.Proofs.Ytkpcajmphhdmiaa
namespace Go.Proofs.Ytkpcajmphhdmiaa
open Go.ChangeShapes Go.WideShapes Go.ChangeAt Go.RowKit
set_option linter.unusedVariables false
def page5 (a : Nat) (z : Int) : P5 := ⟨a, z, zeros, false⟩
theorem page5_fit {a : Nat} (h : a < 4294967296) (z : Int) : Fit5 (page5 a z) := ⟨zeros_len, h⟩
theorem info100 : (Try.prog.info? 102).map (fun i => (i.zero, i.size, i.bytes)) = some (some (.agg (one5 (page5 0 0)).toArray), 259, 280) := by kernel_rfl
theorem build100 (a : Nat) (z : Int) (w : World) : (Instr.build 102 #[(0, .int .u32 (a : Int)), (1, .int .i64 z)]).run Try.prog w = .ok (.agg (one5 (page5 a z)).toArray) w := by kernel_rfl
theorem one5_one (p : P5) : ∀ u ∈ one5 p, u.oneCell' = true := by
  intro u hu
  simp only [one5, cellsU, List.mem_cons, List.mem_append, List.mem_map, List.not_mem_nil, or_false] at hu
  rcases hu with rfl | rfl | ⟨x, _, rfl⟩ | rfl <;> rfl
theorem page0_size : (one5 (page5 0 0)).length = 259 := one5_len (page5_fit (by omega) 0)
/-- A page put behind a row of pages of one's own. -/
theorem wpList_pushP {wa : World} {ops : Array Oper} {rest : List Oper} {o : Oper} {a : Act} {Q : Exit → Act → World → Prop} (hgd : o.guard = none) (s x : Operand) (ho : o.op = .call { callee := .builtin .append, args := #[s, x], argTypes := #[86, 86] }) (base : Nat) (v : Value) (l : List P5) (p : P5) (hp : Fit5 p) (w4 : World) (hwa : wa = w4.alloc (.cells (one5 p).toArray 102)) (hs : a.eval s = v) (hx : a.eval x = .slice (some ⟨w4.heap.size, 0, none⟩) 1 1) (hrow : w4.ownsRow base 102 259 v l.length (cells5 l)) (hlen : l.length ≤ 1000) (hbase : base ≤ w4.heap.size)
    (h : ∀ v' w', w'.ownsRow base 102 259 v' (l ++ [p]).length (cells5 (l ++ [p])) → w4.grownBy w' v.ownBlock → (v'.ownBlock = v.ownBlock ∨ ∃ q, w4.heap.size ≤ q ∧ v'.ownBlock = some q) → wpList Try.prog ops Q rest (a.put o.dst v') w') : wpList Try.prog ops Q (o :: rest) a wa := by
  subst hwa
  obtain ⟨i0, hi, hz0, hz1, hz2⟩ := info_parts info100
  refine wpList_append_own_at _ hgd s x 86 ho base 102 i0 _ 259 280 Try.underlying86 hi hz0 hz1 hz2 page0_size (by decide) v l.length (cells5 l) hs (hrow.alloc _) ⟨w4.heap.size, 0, none⟩ 1 1 (one5 p) hx (by rw [one5_len hp]) ?_ (one5_one p) (by unfold maxLen; omega) (by omega) (by simp; omega) ?_
  · intro j u hu
    rw [Addr.add_lit, Nat.zero_add, cell_of_row _ _ _ _ _ _ (heap_alloc_new w4 _), List.getElem?_toArray]
    exact hu
  · intro v' w' hown hgr _ hloc
    refine h v' w' ?_ ((World.grownBy_alloc w4 _ _).trans hgr) ?_
    · rw [cells5_append, List.length_append]
      have e : cells5 [p] = one5 p := by simp [cells5]
      rw [e]
      exact hown
    · rcases hloc with hl | hl
      · exact .inl hl
      · exact .inr ⟨_, by simp, hl⟩
/-- The memory with one page more. -/
theorem M5.more {w w2 : World} {s : S5} {v : Value} {p : P5} (h : M5 w s) (hp : Fit5 p) (hlen : s.l.length < 1000) (hown : w2.ownsRow 0 102 259 v (s.l ++ [p]).length (cells5 (s.l ++ [p]))) (hg : w.grownBy w2 s.vP.ownBlock) (hl : v.ownBlock = s.vP.ownBlock ∨ ∃ q, w.heap.size ≤ q ∧ v.ownBlock = some q) :
    Step5 w s (w2.setCell ⟨s.m, 1, none⟩ v) { s with l := s.l ++ [p], vP := v } := by
  have kp := Keep.grown hg
  have hmP : ∀ t, s.vP.ownBlock = some t → t ≠ s.m := fun t ht => by
    obtain ⟨c, hb⟩ := h.blkP ht
    exact blk_ne hb h.self (by decide)
  have hmT : ∀ t, s.vT.ownBlock = some t → t ≠ s.m ∧ t < w.heap.size ∧ ¬ s.vP.ownBlock = some t := fun t ht => by
    obtain ⟨c, hb⟩ := h.blkT ht
    refine ⟨blk_ne hb h.self (by decide), hb.lt, fun e => ?_⟩
    obtain ⟨c2, hb2⟩ := h.blkP e
    exact blk_ne hb2 hb (by decide) rfl
  have hself : Blk w2 s.m #[.int .i64 (s.most : Int), s.vP, s.vT] 88 := (kp.block s.m h.lt fun e => hmP _ e rfl).trans h.self
  have hvm : ∀ t, v.ownBlock = some t → t ≠ s.m := fun t ht => by
    rcases hl with hl | ⟨q, hq, hl⟩
    · rw [hl] at ht; exact hmP t ht
    · rw [hl] at ht
      have := h.lt
      simp at ht
      omega
  have out : ∀ b, b ≠ s.m → (w2.setCell ⟨s.m, 1, none⟩ v).heap[b]? = w2.heap[b]? := fun b hb => Below.heap_setCell _ _ _ b hb
  refine ⟨⟨?_, ?_, ?_, ?_, ?_⟩, ?_, ?_⟩
  · show (w2.setCell ⟨s.m, 1, none⟩ v).heap[s.m]? = _
    rw [Lib.heap_setCell_same hself v]
    rfl
  · exact ownsRow_same hown fun t ht => out t (hvm t ht)
  · exact ownsRow_same (ownsRow_same h.touched fun t ht => kp.block t (hmT t ht).2.1 (hmT t ht).2.2) fun t ht => out t (hmT t ht).1
  · intro q hq
    rcases List.mem_append.1 hq with hq | hq
    · exact h.fit q hq
    · rw [List.mem_singleton.1 hq]; exact hp
  · show (s.l ++ [p]).length ≤ 1000
    rw [List.length_append]
    exact hlen
  · refine (kp.mono (G := foot5 s) fun b _ hb => .inr (.inl hb)).trans (keep_set w2 _ v) fun b _ hb => .inl hb
  · rintro b (hb | hb | hb)
    · exact .inl (.inl hb)
    · rcases hl with hl | ⟨q, hq, hl⟩
      · exact .inl (.inr (.inl (by rw [← hl]; exact hb)))
      · right
        have hb2 : v.ownBlock = some b := hb
        rw [hl] at hb2
        simp at hb2
        omega
    · exact .inl (.inr (.inr hb))
end Go.Proofs.Ytkpcajmphhdmiaa
namespace Go.Proofs.Ytkpcajmphhdmiaa
open Go.ChangeShapes Go.WideShapes Go.ChangeAt Go.RowKit
set_option linter.unusedVariables false
def setL (l : List Value) : Nat → List Value → List Value
  | _, [] => l
  | o, v :: r => setL (l.set o v) (o + 1) r
theorem setL_len : ∀ (vs l : List Value) (o : Nat), (setL l o vs).length = l.length
  | [], _, _ => rfl
  | v :: r, l, o => by rw [setL, setL_len r, List.length_set]
theorem setL_take (n : Nat) : ∀ (vs l : List Value) (o : Nat), (setL l o vs).take n = setL (l.take n) o vs
  | [], _, _ => rfl
  | v :: r, l, o => by rw [setL, setL, setL_take n r, List.take_set]
theorem setL_mid : ∀ (vs a b c : List Value), b.length = vs.length → setL (a ++ (b ++ c)) a.length vs = a ++ (vs ++ c)
  | [], a, b, c, h => by rw [List.eq_nil_of_length_eq_zero h]; rfl
  | v :: r, a, b, c, h => by
    obtain ⟨x, t, rfl⟩ : ∃ x t, b = x :: t := by
      cases b with
      | nil => simp at h
      | cons x t => exact ⟨x, t, rfl⟩
    have e : (a ++ (x :: t ++ c)).set a.length v = (a ++ [v]) ++ (t ++ c) := by
      rw [List.set_append_right _ _ (Nat.le_refl _), Nat.sub_self]
      simp
    rw [setL, e, show a.length + 1 = (a ++ [v]).length by simp, setL_mid r (a ++ [v]) t c (by simpa using h)]
    simp
theorem heap_setCells_row {g : Nat} {T : TypeId} {fr : Nat × Nat} : ∀ (vs : List Value) (o : Nat) (w : World) (cs : Array Value), w.heap[g]? = some (.cells cs T fr) → (w.setCells g o vs).heap[g]? = some (.cells (setL cs.toList o vs).toArray T fr)
  | [], _, _, _, h => by simpa [World.setCells, setL] using h
  | v :: r, o, w, cs, h => by
    rw [World.setCells, heap_setCells_row r (o + 1) _ _ (Lib.heap_setCell_same h v), setL, Array.toList_setIfInBounds]
theorem size_setCells (g : Nat) : ∀ (vs : List Value) (o : Nat) (w : World), (w.setCells g o vs).heap.size = w.heap.size
  | [], _, _ => rfl
  | v :: r, o, w => by rw [World.setCells, size_setCells g r]; simp [World.setCell]
theorem tape_setCells (g : Nat) : ∀ (vs : List Value) (o : Nat) (w : World), (w.setCells g o vs).tape = w.tape
  | [], _, _ => rfl
  | v :: r, o, w => by rw [World.setCells, tape_setCells g r]; rfl
theorem keep_setCells (w : World) (g o : Nat) (vs : List Value) : Keep (· = g) w (w.setCells g o vs) :=
  ⟨World.os_setCells _ _ _ _, tape_setCells _ _ _ _, World.output_setCells _ _ _ _, Nat.le_of_eq (size_setCells g vs o w).symm, fun k hk hne => World.heap_setCells_other w g o vs hk hne⟩
theorem cells5_put {l : List P5} (hf : ∀ p ∈ l, Fit5 p) {k : Nat} (hk : k < l.length) {q : P5} (hq : Fit5 q) : setL (cells5 l) (k * 259) (one5 q) = cells5 (l.set k q) := by
  have e : l = l.take k ++ ([l[k]] ++ l.drop (k + 1)) := by simp
  have e2 : l.set k q = l.take k ++ ([q] ++ l.drop (k + 1)) := by rw [List.set_eq_take_append_cons_drop, if_pos hk]; rfl
  have e3 : (cells5 (l.take k)).length = k * 259 := by
    rw [cells5_len fun p hp => hf p (List.mem_of_mem_take hp), List.length_take, Nat.min_eq_left (Nat.le_of_lt hk)]
  have e4 : ∀ p : P5, cells5 [p] = one5 p := fun p => by simp [cells5]
  rw [e2]
  conv => lhs; rw [e]
  rw [cells5_append, cells5_append, cells5_append, cells5_append, e4, e4, ← e3, setL_mid _ _ _ _ (by rw [one5_len hq, one5_len (hf _ (List.getElem_mem hk))])]
/-- One page put in the place of another. -/
theorem M5.put {w : World} {s : S5} (h : M5 w s) {k : Nat} (hk : k < s.l.length) {q : P5} (hq : Fit5 q) {g off cap : Nat} (hv : s.vP = .slice (some ⟨g, off, none⟩) s.l.length cap) (h0 : off = 0) :
    Step5 w s (w.setCells g (off + k * 259) (one5 q)) { s with l := s.l.set k q } := by
  subst h0
  have hgP : s.vP.ownBlock = some g := by rw [hv]; rfl
  obtain ⟨c1, hb1⟩ := h.blkP hgP
  have hgm : s.m ≠ g := blk_ne h.self hb1 (by decide)
  have out : ∀ b, b < w.heap.size → b ≠ g → (w.setCells g (0 + k * 259) (one5 q)).heap[b]? = w.heap[b]? := fun b hb hne => World.heap_setCells_other _ _ _ _ hb hne
  refine ⟨⟨(out _ h.lt hgm).trans h.self, ?_, ownsRow_same h.touched fun t ht => ?_, ?_, ?_⟩, (keep_setCells w g _ _).mono fun b _ hb => ?_, fun b hb => .inl hb⟩
  · show (w.setCells g (0 + k * 259) (one5 q)).ownsRow 0 102 259 s.vP (s.l.set k q).length (cells5 (s.l.set k q))
    rw [List.length_set, ← cells5_put h.fit hk hq]
    refine ⟨by rw [setL_len]; exact h.pages.1, ?_⟩
    rcases h.pages.2 with ⟨e, hz⟩ | ⟨g', cap', cur, e, hb, hg, hnc, hcm, hsz, htk⟩
    · omega
    · rw [hv] at e
      simp at e
      obtain ⟨rfl, rfl⟩ := e
      refine .inr ⟨g, cap, _, hv, hb, heap_setCells_row _ _ _ _ hg, hnc, hcm, by rw [List.size_toArray, setL_len]; simpa using hsz, ?_⟩
      rw [← htk, setL_take, Nat.zero_add]
  · obtain ⟨c2, hb2⟩ := h.blkT ht
    exact out t hb2.lt (blk_ne hb2 hb1 (by decide))
  · intro p hp
    rcases List.mem_or_eq_of_mem_set hp with hp | rfl
    · exact h.fit p hp
    · exact hq
  · show (s.l.set k q).length ≤ 1000
    rw [List.length_set]
    exact h.few
  · exact .inr (.inl (by rw [hgP]; exact congrArg some hb.symm))
end Go.Proofs.Ytkpcajmphhdmiaa
