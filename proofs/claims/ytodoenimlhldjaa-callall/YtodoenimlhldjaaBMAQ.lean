/- Chapter 5's own memory: a cell of a page turned; Poke. -/
import Derived.Test.YtodoenimlhldjaaBMAP
import Derived.Deep.Cut
import Derived.Maps.AppendAt
namespace Go.Proofs.Ytodoenimlhldjaa
open Go.ChangeShapes Go.WideShapes Go.ChangeAt Go.RowKit
set_option linter.unusedVariables false
theorem blk_ne {w : World} {a b : Nat} {x y : Array Value} {T U : TypeId} (h : Blk w a x T) (k : Blk w b y U) (hT : T ≠ U) : a ≠ b := by
  rintro rfl
  have := h.symm.trans k
  simp at this
  exact hT this.2
theorem keep_set (w : World) (a : Addr) (v : Value) : Keep (· = a.block) w (w.setCell a v) :=
  ⟨rfl, rfl, rfl, by simp [World.setCell], fun k _ hk => Below.heap_setCell _ _ _ k hk⟩
theorem M5.blkT {w : World} {s : S5} (h : M5 w s) {g : Nat} (hg : s.vT.ownBlock = some g) : ∃ cur, Blk w g cur 23 := by
  rcases h.touched.2 with ⟨e, _⟩ | ⟨g', cap, cur, e, _, hc, _⟩
  · rw [e] at hg; simp [Value.ownBlock] at hg
  · rw [e] at hg
    simp [Value.ownBlock] at hg
    subst hg
    exact ⟨cur, hc⟩
theorem M5.blkP {w : World} {s : S5} (h : M5 w s) {g : Nat} (hg : s.vP.ownBlock = some g) : ∃ cur, Blk w g cur 116 := by
  rcases h.pages.2 with ⟨e, _⟩ | ⟨g', cap, cur, e, _, hc, _⟩
  · rw [e] at hg; simp [Value.ownBlock] at hg
  · rw [e] at hg
    simp [Value.ownBlock] at hg
    subst hg
    exact ⟨cur, hc⟩
theorem M5.drewN {w : World} {s : S5} (h : M5 w s) (n : Nat) : M5 (w.drewN n) s := ⟨h.self, h.pages, h.touched, h.fit, h.few⟩
theorem Step5.refl {w : World} {s : S5} (h : M5 w s) : Step5 w s w s := ⟨h, Keep.refl _ _, fun _ hb => .inl hb⟩
theorem Step5.trans {u v w : World} {r s t : S5} (h : Step5 u r v s) (k : Step5 v s w t) : Step5 u r w t := by
  refine ⟨k.mem, h.keep.trans k.keep fun b hb hs => ?_, fun b hb => ?_⟩
  · rcases h.grow b hs with h1 | h1
    · exact h1
    · omega
  · rcases k.grow b hb with h1 | h1
    · exact h.grow b h1
    · exact .inr (Nat.le_trans h.keep.size h1)
/-- One cell of one page turned. -/
theorem M5.set {w : World} {s : S5} (h : M5 w s) {k i : Nat} (hk : k < s.l.length) (hi : i < 259) {q : P5} {v : Value} (he : one5 q = (one5 (s.l.getD k nop5)).set i v) (hq : Fit5 q) {g off cap : Nat} (hv : s.vP = .slice (some ⟨g, off, none⟩) s.l.length cap) (h0 : off = 0) :
    Step5 w s (w.setCell ⟨g, off + k * 259 + i, none⟩ v) { s with l := s.l.set k q } := by
  subst h0
  have hgP : s.vP.ownBlock = some g := by rw [hv]; rfl
  obtain ⟨c1, hb1⟩ := h.blkP hgP
  have hgm : s.m ≠ g := blk_ne h.self hb1 (by decide)
  have hgt : ∀ t, s.vT.ownBlock = some t → t ≠ g := fun t ht => by
    obtain ⟨c2, hb2⟩ := h.blkT ht
    exact blk_ne hb2 hb1 (by decide)
  have out : ∀ b, b ≠ g → (w.setCell ⟨g, 0 + k * 259 + i, none⟩ v).heap[b]? = w.heap[b]? := fun b hb => Below.heap_setCell _ _ _ b hb
  refine ⟨⟨(out _ hgm).trans h.self, ?_, ownsRow_same h.touched fun t ht => out t (hgt t ht), ?_, ?_⟩, (keep_set w _ v).mono fun b _ hb => ?_, fun b hb => .inl hb⟩
  · show (w.setCell ⟨g, 0 + k * 259 + i, none⟩ v).ownsRow 0 116 259 s.vP (s.l.set k q).length (cells5 (s.l.set k q))
    rw [List.length_set, ← cells5_set h.fit k i q v hk hi he]
    refine ⟨by rw [List.length_set]; exact h.pages.1, ?_⟩
    rcases h.pages.2 with ⟨e, hz⟩ | ⟨g', cap', cur, e, hb, hg, hnc, hcm, hsz, htk⟩
    · omega
    · rw [hv] at e
      simp at e
      obtain ⟨rfl, rfl⟩ := e
      refine .inr ⟨g, cap, cur.setIfInBounds (0 + k * 259 + i) v, hv, hb, Lib.heap_setCell_same hg v, hnc, hcm, by simpa using hsz, ?_⟩
      rw [← htk, Array.toList_setIfInBounds, List.take_set, Nat.zero_add]
  · intro p hp
    rcases List.mem_or_eq_of_mem_set hp with hp | rfl
    · exact h.fit p hp
    · exact hq
  · show (s.l.set k q).length ≤ 1000
    rw [List.length_set]
    exact h.few
  · exact .inr (.inl (by rw [hgP]; exact congrArg some hb.symm))
end Go.Proofs.Ytodoenimlhldjaa
namespace Go.Proofs.Ytodoenimlhldjaa
open Go.ChangeShapes Go.WideShapes Go.ChangeAt Go.RowKit
set_option linter.unusedVariables false
def put5 (p : P5) (q : Nat) (v : UInt8) : P5 := { p with b := p.b.set q v }
theorem put5_fit {p : P5} (h : Fit5 p) (q : Nat) (v : UInt8) : Fit5 (put5 p q v) := ⟨by show (p.b.set q v).length = 256; rw [List.length_set]; exact h.lb, h.la⟩
theorem put5_one {p : P5} (h : Fit5 p) {q : Nat} (hq : q < 256) (v : UInt8) : one5 (put5 p q v) = (one5 p).set (2 + q) (.int .u8 (v.toNat : Int)) := by
  have e : one5 p = [.int .u32 (p.at_ : Int), .int .i64 p.perm] ++ (cellsU p.b ++ [.bool p.watched]) := rfl
  have e2 : one5 (put5 p q v) = [.int .u32 (p.at_ : Int), .int .i64 p.perm] ++ (cellsU (p.b.set q v) ++ [.bool p.watched]) := rfl
  rw [e, e2, List.set_append_right _ _ (by simp), List.set_append_left _ _ (by simp [cellsU, h.lb]; omega)]
  simp [cellsU, List.map_set]
def poke5 (l : List P5) (a : Nat) (v : UInt8) : List P5 := if find5 l (a / 256 * 256) < l.length then l.set (find5 l (a / 256 * 256)) (put5 (l.getD (find5 l (a / 256 * 256)) nop5) (a % 256) v) else l
def touch5 (l : List P5) (ts : List Nat) (a : Nat) : List Nat := if find5 l (a / 256 * 256) < l.length ∧ (l.getD (find5 l (a / 256 * 256)) nop5).watched = true then ts ++ [a] else ts
/-- A place put behind what was touched. -/
theorem M5.touch {w w2 : World} {s : S5} {v : Value} {a : Nat} (h : M5 w s) (hown : w2.ownsRow 0 23 1 v (s.ts.length + 1) (words s.ts ++ [.int .u32 (a : Int)])) (hg : w.grownBy w2 s.vT.ownBlock) (hl : v.ownBlock = s.vT.ownBlock ∨ ∃ q, w.heap.size ≤ q ∧ v.ownBlock = some q) :
    Step5 w s (w2.setCell ⟨s.m, 2, none⟩ v) { s with ts := s.ts ++ [a], vT := v } := by
  have kp := Keep.grown hg
  have hmT : ∀ t, s.vT.ownBlock = some t → t ≠ s.m := fun t ht => by
    obtain ⟨c, hb⟩ := h.blkT ht
    exact blk_ne hb h.self (by decide)
  have hmP : ∀ t, s.vP.ownBlock = some t → t ≠ s.m ∧ t < w.heap.size ∧ ¬ s.vT.ownBlock = some t := fun t ht => by
    obtain ⟨c, hb⟩ := h.blkP ht
    refine ⟨blk_ne hb h.self (by decide), hb.lt, fun e => ?_⟩
    obtain ⟨c2, hb2⟩ := h.blkT e
    exact blk_ne hb2 hb (by decide) rfl
  have hself : Blk w2 s.m #[.int .i64 (s.most : Int), s.vP, s.vT] 96 := (kp.block s.m h.lt fun e => hmT _ e rfl).trans h.self
  have hvm : ∀ t, v.ownBlock = some t → t ≠ s.m := fun t ht => by
    rcases hl with hl | ⟨q, hq, hl⟩
    · rw [hl] at ht; exact hmT t ht
    · rw [hl] at ht
      have := h.lt
      simp at ht
      omega
  have out : ∀ b, b ≠ s.m → (w2.setCell ⟨s.m, 2, none⟩ v).heap[b]? = w2.heap[b]? := fun b hb => Below.heap_setCell _ _ _ b hb
  refine ⟨⟨?_, ?_, ?_, h.fit, h.few⟩, ?_, ?_⟩
  · show (w2.setCell ⟨s.m, 2, none⟩ v).heap[s.m]? = _
    rw [Lib.heap_setCell_same hself v]
    rfl
  · exact ownsRow_same (ownsRow_same h.pages fun t ht => kp.block t (hmP t ht).2.1 (hmP t ht).2.2) fun t ht => out t (hmP t ht).1
  · refine ownsRow_same ?_ fun t ht => out t (hvm t ht)
    show w2.ownsRow 0 23 1 v (s.ts ++ [a]).length (words (s.ts ++ [a]))
    rw [words_append, List.length_append]
    exact hown
  · refine (kp.mono (G := foot5 s) fun b _ hb => .inr (.inr hb)).trans (keep_set w2 _ v) fun b _ hb => .inl hb
  · rintro b (hb | hb | hb)
    · exact .inl (.inl hb)
    · exact .inl (.inr (.inl hb))
    · rcases hl with hl | ⟨q, hq, hl⟩
      · exact .inl (.inr (.inr (by rw [← hl]; exact hb)))
      · right
        have hb2 : v.ownBlock = some b := hb
        rw [hl] at hb2
        simp at hb2
        omega
theorem wpList_pushN {wa : World} {ops : Array Oper} {rest : List Oper} {o : Oper} {a : Act} {Q : Exit → Act → World → Prop} (hgd : o.guard = none) (s x : Operand) (ho : o.op = .call { callee := .builtin .append, args := #[s, x], argTypes := #[47, 47] }) (base : Nat) (v : Value) (ts : List Nat) (z : Int) (w4 : World) (N : Nat) (hN : w4.heap.size = N) (hwa : wa = w4.alloc (.cells #[.int .u32 z] 23)) (hs : a.eval s = v) (hx : a.eval x = .slice (some ⟨N, 0, none⟩) 1 1) (hrow : w4.ownsRow base 23 1 v ts.length (words ts)) (hlen : ts.length < 1099511627776) (hbase : base ≤ w4.heap.size)
    (h : ∀ v' w', w'.ownsRow base 23 1 v' (ts.length + 1) (words ts ++ [.int .u32 z]) → w4.grownBy w' v.ownBlock → (v'.ownBlock = v.ownBlock ∨ ∃ q, w4.heap.size ≤ q ∧ v'.ownBlock = some q) → wpList Try.prog ops Q rest (a.put o.dst v') w') : wpList Try.prog ops Q (o :: rest) a wa := by
  subst hN
  exact wpList_pushW hgd s x ho base v ts z w4 hwa hs hx hrow hlen hbase h
set_option maxRecDepth 20000 in
set_option maxHeartbeats 8000000 in
theorem poke5_off (w : World) (m g off cap n k q a : Nat) (old x : Int) (hC : Calls Try.prog 61 #[.pointer (some ⟨m, 0, none⟩), .int .u32 (a : Int)] w fun e w' => e = .returned (.int .i64 (k : Int)) ∧ w' = w) (hP : w.cell? ⟨m, 1, none⟩ = some (.slice (some ⟨g, off, none⟩) n cap)) (hB : w.cell? ⟨g, off + k * 259 + 2 + q, none⟩ = some (.int .u8 old)) (hW : w.cell? ⟨g, off + k * 259 + 258, none⟩ = some (.bool false)) (hz : w.frozen? ⟨g, off + k * 259 + 2 + q, none⟩ = false) (hne : ¬ m = g) (hq2 : (a : Int) % 256 = (q : Int)) (hq3 : q < 256) (hkn : k < n) :
    Calls Try.prog 32 #[.pointer (some ⟨m, 0, none⟩), .int .u32 (a : Int), .int .u8 x] w fun e w' => e = .returned (.bool true) ∧ w' = w.setCell ⟨g, off + k * 259 + 2 + q, none⟩ (.int .u8 x) := by
  have C := hidden hC
  clear hC
  have hne' : ¬ g = m := fun e => hne e.symm
  have hne2 : ¬ off + k * 259 + 258 = off + k * 259 + 2 + q := by omega
  have hne3 : ¬ off + k * 259 + 2 + q = off + k * 259 + 258 := by omega
  have hk0 : ¬ (k : Int) < 0 := by omega
  go_enter Try.func32, Try.ntmps32
  go_wp2_with (first | (go_at_call 61; refine (Hid.out C).mono ?_; rintro e w4 ⟨rfl, hww⟩; rw [hww]; clear hww w4))
  go_ret
  exact ⟨rfl, rfl⟩
set_option maxRecDepth 20000 in
set_option maxHeartbeats 8000000 in
theorem poke5_on (w : World) (m g off cap n k q a : Nat) (old x : Int) (vT : Value) (ts : List Nat) (hC : Calls Try.prog 61 #[.pointer (some ⟨m, 0, none⟩), .int .u32 (a : Int)] w fun e w' => e = .returned (.int .i64 (k : Int)) ∧ w' = w) (hP : w.cell? ⟨m, 1, none⟩ = some (.slice (some ⟨g, off, none⟩) n cap)) (hT : w.cell? ⟨m, 2, none⟩ = some vT) (hB : w.cell? ⟨g, off + k * 259 + 2 + q, none⟩ = some (.int .u8 old)) (hW : w.cell? ⟨g, off + k * 259 + 258, none⟩ = some (.bool true)) (hz : w.frozen? ⟨g, off + k * 259 + 2 + q, none⟩ = false) (hne : ¬ m = g) (hq2 : (a : Int) % 256 = (q : Int)) (hq3 : q < 256) (hkn : k < n)
    (hrow : (w.setCell ⟨g, off + k * 259 + 2 + q, none⟩ (.int .u8 x)).ownsRow 0 23 1 vT ts.length (words ts)) (hlen : ts.length < 1000000) (hcell : ∀ w2, (w.setCell ⟨g, off + k * 259 + 2 + q, none⟩ (.int .u8 x)).grownBy w2 vT.ownBlock → w2.cell? ⟨m, 2, none⟩ = some vT ∧ w2.frozen? ⟨m, 2, none⟩ = false) :
    Calls Try.prog 32 #[.pointer (some ⟨m, 0, none⟩), .int .u32 (a : Int), .int .u8 x] w fun e w' => e = .returned (.bool true) ∧ ∃ v w2, w' = w2.setCell ⟨m, 2, none⟩ v ∧ w2.ownsRow 0 23 1 v (ts.length + 1) (words ts ++ [.int .u32 (a : Int)]) ∧ (w.setCell ⟨g, off + k * 259 + 2 + q, none⟩ (.int .u8 x)).grownBy w2 vT.ownBlock ∧ (v.ownBlock = vT.ownBlock ∨ ∃ r, (w.setCell ⟨g, off + k * 259 + 2 + q, none⟩ (.int .u8 x)).heap.size ≤ r ∧ v.ownBlock = some r) := by
  have C := hidden hC
  have HR := hidden hrow
  have HL : Hid (ts.length < 1099511627776) := by show ts.length < 1099511627776; omega
  have HC := hidden hcell
  have H0 : Hid (0 ≤ (w.setCell ⟨g, off + k * 259 + 2 + q, none⟩ (.int .u8 x)).heap.size) := Nat.zero_le _
  have HSZ : Hid ((w.setCell ⟨g, off + k * 259 + 2 + q, none⟩ (.int .u8 x)).heap.size = w.heap.size) := by show _ = _; simp [World.setCell]
  clear hC hrow hlen hcell
  have hne' : ¬ g = m := fun e => hne e.symm
  have hne2 : ¬ off + k * 259 + 258 = off + k * 259 + 2 + q := by omega
  have hne3 : ¬ off + k * 259 + 2 + q = off + k * 259 + 258 := by omega
  have hk0 : ¬ (k : Int) < 0 := by omega
  go_enter Try.func32, Try.ntmps32
  go_wp2_with (first | (go_at_call 61; refine (Hid.out C).mono ?_; rintro e w4 ⟨rfl, hww⟩; rw [hww]; clear hww w4) | (at_builtin; go_loud (refine wpList_pushN rfl _ _ rfl 0 vT ts (a : Int) (w.setCell ⟨g, off + k * 259 + 2 + q, none⟩ (.int .u8 x)) w.heap.size (Hid.out HSZ) rfl rfl rfl (Hid.out HR) (Hid.out HL) (Hid.out H0) ?_; intro v' w1 hown hgr hloc; obtain ⟨ta, tm, tc, rfl⟩ := row_slice hown; obtain ⟨hca, hcz⟩ := Hid.out HC w1 hgr; have HO := hidden hown; have HG := hidden hgr; have HLO := hidden hloc; clear hown hgr hloc)))
  go_ret
  exact ⟨rfl, _, _, rfl, Hid.out HO, Hid.out HG, Hid.out HLO⟩
set_option maxRecDepth 20000 in
set_option maxHeartbeats 8000000 in
theorem poke5_any (w : World) (s : S5) (h : M5 w s) (a : Nat) (v : UInt8) (ha : a < 4294967296) (htl : s.ts.length < 1000000) : Calls Try.prog 32 #[.pointer (some ⟨s.m, 0, none⟩), .int .u32 (a : Int), .int .u8 (v.toNat : Int)] w fun e w' => e = .returned (.bool (decide (find5 s.l (a / 256 * 256) < s.l.length))) ∧ ∃ s', Step5 w s w' s' ∧ s'.m = s.m ∧ s'.most = s.most ∧ s'.l = poke5 s.l a v ∧ s'.ts = touch5 s.l s.ts a := by
  have H := hidden h
  obtain ⟨ao, cap0, hv0, hps⟩ := h.ps
  have C := hidden (find_any w s.m ao cap0 a s.l hps (by rw [h.cellP, hv0]) h.few ha)
  unfold poke5 touch5
  obtain ⟨p, hp⟩ : ∃ p, a / 256 * 256 = p := ⟨_, rfl⟩
  rw [hp] at C ⊢
  by_cases hf : find5 s.l p < s.l.length
  · rw [find5I_yes hf] at C
    rw [if_pos hf, decide_eq_true hf]
    obtain ⟨k, hk⟩ : ∃ k, find5 s.l p = k := ⟨_, rfl⟩
    rw [hk] at C hf ⊢
    simp only [hf, true_and]
    obtain ⟨g, off, cap, ho, hv, hlt, hth, ⟨cur, hbg⟩, hc⟩ := h.row hf
    have hfit := h.fitAt hf
    obtain ⟨q, hq⟩ : ∃ q, a % 256 = q := ⟨_, rfl⟩
    have hq2 : (a : Int) % 256 = (q : Int) := by omega
    have hq3 : q < 256 := by omega
    rw [hq]
    have hP : w.cell? ⟨s.m, 1, none⟩ = some (.slice (some ⟨g, off, none⟩) s.l.length cap) := by rw [h.cellP, hv]
    have hT : w.cell? ⟨s.m, 2, none⟩ = some s.vT := h.self.cell rfl
    have hB : w.cell? ⟨g, off + k * 259 + 2 + q, none⟩ = some (.int .u8 (((s.l.getD k nop5).b.getD q 0).toNat : Int)) := by
      rw [Nat.add_assoc _ 2 q]
      exact hc k (2 + q) _ hf (by omega) (one5_byte hfit hq3)
    have hW : w.cell? ⟨g, off + k * 259 + 258, none⟩ = some (.bool (s.l.getD k nop5).watched) := hc k 258 _ hf (by omega) (one5_watch hfit)
    have hz := hth (off + k * 259 + 2 + q)
    have hne : ¬ s.m = g := blk_ne h.self hbg (by decide)
    have st := h.set hf (i := 2 + q) (by omega) (put5_one hfit hq3 v) (put5_fit hfit q v) hv ho
    rw [← Nat.add_assoc] at st
    by_cases hw : (s.l.getD k nop5).watched = true
    · rw [if_pos hw]
      rw [hw] at hW
      refine (poke5_on w s.m g off cap s.l.length k q a _ (v.toNat : Int) s.vT s.ts (Hid.out C) hP hT hB hW hz hne hq2 hq3 hf st.mem.touched htl ?_).mono ?_
      · intro w2 hg2
        have hb2 : Blk w2 s.m #[.int .i64 (s.most : Int), s.vP, s.vT] 96 := ((Keep.grown hg2).block s.m st.mem.lt fun e => by
          obtain ⟨c2, hc2⟩ := st.mem.blkT e
          exact blk_ne hc2 st.mem.self (by decide) rfl).trans st.mem.self
        exact ⟨hb2.cell rfl, frozen_of_row _ _ _ _ _ hb2⟩
      · rintro e w' ⟨rfl, v2, w2, rfl, hown, hgr, hloc⟩
        exact ⟨rfl, _, st.trans (st.mem.touch (a := a) hown hgr hloc), rfl, rfl, rfl, rfl⟩
    · rw [if_neg hw]
      have hw2 : (s.l.getD k nop5).watched = false := by simpa using hw
      rw [hw2] at hW
      refine (poke5_off w s.m g off cap s.l.length k q a _ (v.toNat : Int) (Hid.out C) hP hB hW hz hne hq2 hq3 hf).mono ?_
      rintro e w' ⟨rfl, rfl⟩
      exact ⟨rfl, _, st, rfl, rfl, rfl, rfl⟩
  · rw [find5I_no hf] at C
    rw [if_neg hf, decide_eq_false hf]
    simp only [hf, false_and, if_false]
    have HE := hidden (Step5.refl h)
    clear h hp hf hps hv0
    go_enter Try.func32, Try.ntmps32
    go_wp2_with (first | (go_at_call 61; refine (Hid.out C).mono ?_; rintro e w4 ⟨rfl, hww⟩; rw [hww]; clear hww w4))
    go_ret
    exact ⟨rfl, s, Hid.out HE, rfl, rfl, rfl, rfl⟩
end Go.Proofs.Ytodoenimlhldjaa
namespace Go.Proofs.Ytodoenimlhldjaa
open Go.ChangeShapes Go.WideShapes Go.ChangeAt Go.RowKit
set_option linter.unusedVariables false
def allow5 (p : P5) (z : Int) : P5 := { p with perm := bits .or .i64 p.perm (bits .and .i64 z 7) }
theorem allow5_fit {p : P5} (h : Fit5 p) (z : Int) : Fit5 (allow5 p z) := ⟨h.lb, h.la⟩
theorem allow5_one (p : P5) (z : Int) : one5 (allow5 p z) = (one5 p).set 1 (.int .i64 (bits .or .i64 p.perm (bits .and .i64 z 7))) := rfl
set_option maxRecDepth 20000 in
set_option maxHeartbeats 8000000 in
theorem map5_there (w : World) (m g off cap n k a : Nat) (pm z : Int) (hC : Calls Try.prog 61 #[.pointer (some ⟨m, 0, none⟩), .int .u32 (a : Int)] w fun e w' => e = .returned (.int .i64 (k : Int)) ∧ w' = w) (hP : w.cell? ⟨m, 1, none⟩ = some (.slice (some ⟨g, off, none⟩) n cap)) (hB : w.cell? ⟨g, off + k * 259 + 1, none⟩ = some (.int .i64 pm)) (hz : w.frozen? ⟨g, off + k * 259 + 1, none⟩ = false) (hne : ¬ m = g) (hkn : k < n) :
    Calls Try.prog 31 #[.pointer (some ⟨m, 0, none⟩), .int .u32 (a : Int), .int .i64 z] w fun e w' => e = .returned (.int .i64 0) ∧ ∃ r, w' = (w.drewN r).setCell ⟨g, off + k * 259 + 1, none⟩ (.int .i64 (bits .or .i64 pm (bits .and .i64 z 7))) := by
  have C := hidden hC
  clear hC
  have hne' : ¬ g = m := fun e => hne e.symm
  have hk0 : (0 : Int) ≤ (k : Int) := by omega
  go_enter Try.func31, Try.ntmps31
  go_wp2_with (first | (go_at_call 61; refine (Hid.out C).mono ?_; rintro e w4 ⟨rfl, hww⟩; rw [hww]; clear hww w4))
  go_region
  all_goals go_wp2
  go_ret
  exact ⟨rfl, _, rfl⟩
set_option maxRecDepth 20000 in
set_option maxHeartbeats 8000000 in
theorem map5_full (w : World) (m cap n most a : Nat) (ao : Option Addr) (z : Int) (hC : Calls Try.prog 61 #[.pointer (some ⟨m, 0, none⟩), .int .u32 (a : Int)] w fun e w' => e = .returned (.int .i64 (-1)) ∧ w' = w) (hP : w.cell? ⟨m, 1, none⟩ = some (.slice ao n cap)) (h0 : w.cell? ⟨m, 0, none⟩ = some (.int .i64 (most : Int))) (hfull : most ≤ n) :
    Calls Try.prog 31 #[.pointer (some ⟨m, 0, none⟩), .int .u32 (a : Int), .int .i64 z] w fun e w' => e = .returned (.int .i64 2) ∧ ∃ r, w' = w.drewN r := by
  have C := hidden hC
  clear hC
  have hf2 : (most : Int) ≤ (n : Int) := by omega
  go_enter Try.func31, Try.ntmps31
  go_wp2_with (first | (go_at_call 61; refine (Hid.out C).mono ?_; rintro e w4 ⟨rfl, hww⟩; rw [hww]; clear hww w4))
  go_region
  all_goals go_wp2
  go_ret
  exact ⟨rfl, _, rfl⟩
end Go.Proofs.Ytodoenimlhldjaa
namespace Go.Proofs.Ytodoenimlhldjaa
open Go.ChangeShapes Go.WideShapes Go.ChangeAt Go.RowKit
set_option linter.unusedVariables false
def page5 (a : Nat) (z : Int) : P5 := ⟨a, z, zeros, false⟩
theorem page5_fit {a : Nat} (h : a < 4294967296) (z : Int) : Fit5 (page5 a z) := ⟨zeros_len, h⟩
theorem info100 : (Try.prog.info? 116).map (fun i => (i.zero, i.size, i.bytes)) = some (some (.agg (one5 (page5 0 0)).toArray), 259, 280) := by kernel_rfl
theorem build100 (a : Nat) (z : Int) (w : World) : (Instr.build 116 #[(0, .int .u32 (a : Int)), (1, .int .i64 z)]).run Try.prog w = .ok (.agg (one5 (page5 a z)).toArray) w := by kernel_rfl
theorem one5_one (p : P5) : ∀ u ∈ one5 p, u.oneCell' = true := by
  intro u hu
  simp only [one5, cellsU, List.mem_cons, List.mem_append, List.mem_map, List.not_mem_nil, or_false] at hu
  rcases hu with rfl | rfl | ⟨x, _, rfl⟩ | rfl <;> rfl
theorem page0_size : (one5 (page5 0 0)).length = 259 := one5_len (page5_fit (by omega) 0)
/-- A page put behind a row of pages of one's own. -/
theorem wpList_pushP {wa : World} {ops : Array Oper} {rest : List Oper} {o : Oper} {a : Act} {Q : Exit → Act → World → Prop} (hgd : o.guard = none) (s x : Operand) (ho : o.op = .call { callee := .builtin .append, args := #[s, x], argTypes := #[94, 94] }) (base : Nat) (v : Value) (l : List P5) (p : P5) (hp : Fit5 p) (w4 : World) (hwa : wa = w4.alloc (.cells (one5 p).toArray 116)) (hs : a.eval s = v) (hx : a.eval x = .slice (some ⟨w4.heap.size, 0, none⟩) 1 1) (hrow : w4.ownsRow base 116 259 v l.length (cells5 l)) (hlen : l.length ≤ 1000) (hbase : base ≤ w4.heap.size)
    (h : ∀ v' w', w'.ownsRow base 116 259 v' (l ++ [p]).length (cells5 (l ++ [p])) → w4.grownBy w' v.ownBlock → (v'.ownBlock = v.ownBlock ∨ ∃ q, w4.heap.size ≤ q ∧ v'.ownBlock = some q) → wpList Try.prog ops Q rest (a.put o.dst v') w') : wpList Try.prog ops Q (o :: rest) a wa := by
  subst hwa
  obtain ⟨i0, hi, hz0, hz1, hz2⟩ := info_parts info100
  refine wpList_append_own_at _ hgd s x 94 ho base 116 i0 _ 259 280 Try.underlying94 hi hz0 hz1 hz2 page0_size (by decide) v l.length (cells5 l) hs (hrow.alloc _) ⟨w4.heap.size, 0, none⟩ 1 1 (one5 p) hx (by rw [one5_len hp]) ?_ (one5_one p) (by unfold maxLen; omega) (by omega) (by simp; omega) ?_
  · intro j u hu
    rw [Addr.add_lit, Nat.zero_add, cell_of_row _ _ _ _ _ _ (heap_alloc_new w4 _), List.getElem?_toArray]
    exact hu
  · intro v' w' hown hgr _ hloc
    refine h v' w' ?_ ((World.grownBy_alloc w4 _ _).trans hgr) ?_
    · rw [cells5_append, List.length_append]
      have e : cells5 [p] = one5 p := by simp [cells5]
      rw [e]
      exact hown
    · rcases hloc with hl | hl
      · exact .inl hl
      · exact .inr ⟨_, by simp, hl⟩
/-- The memory with one page more. -/
theorem M5.more {w w2 : World} {s : S5} {v : Value} {p : P5} (h : M5 w s) (hp : Fit5 p) (hlen : s.l.length < 1000) (hown : w2.ownsRow 0 116 259 v (s.l ++ [p]).length (cells5 (s.l ++ [p]))) (hg : w.grownBy w2 s.vP.ownBlock) (hl : v.ownBlock = s.vP.ownBlock ∨ ∃ q, w.heap.size ≤ q ∧ v.ownBlock = some q) :
    Step5 w s (w2.setCell ⟨s.m, 1, none⟩ v) { s with l := s.l ++ [p], vP := v } := by
  have kp := Keep.grown hg
  have hmP : ∀ t, s.vP.ownBlock = some t → t ≠ s.m := fun t ht => by
    obtain ⟨c, hb⟩ := h.blkP ht
    exact blk_ne hb h.self (by decide)
  have hmT : ∀ t, s.vT.ownBlock = some t → t ≠ s.m ∧ t < w.heap.size ∧ ¬ s.vP.ownBlock = some t := fun t ht => by
    obtain ⟨c, hb⟩ := h.blkT ht
    refine ⟨blk_ne hb h.self (by decide), hb.lt, fun e => ?_⟩
    obtain ⟨c2, hb2⟩ := h.blkP e
    exact blk_ne hb2 hb (by decide) rfl
  have hself : Blk w2 s.m #[.int .i64 (s.most : Int), s.vP, s.vT] 96 := (kp.block s.m h.lt fun e => hmP _ e rfl).trans h.self
  have hvm : ∀ t, v.ownBlock = some t → t ≠ s.m := fun t ht => by
    rcases hl with hl | ⟨q, hq, hl⟩
    · rw [hl] at ht; exact hmP t ht
    · rw [hl] at ht
      have := h.lt
      simp at ht
      omega
  have out : ∀ b, b ≠ s.m → (w2.setCell ⟨s.m, 1, none⟩ v).heap[b]? = w2.heap[b]? := fun b hb => Below.heap_setCell _ _ _ b hb
  refine ⟨⟨?_, ?_, ?_, ?_, ?_⟩, ?_, ?_⟩
  · show (w2.setCell ⟨s.m, 1, none⟩ v).heap[s.m]? = _
    rw [Lib.heap_setCell_same hself v]
    rfl
  · exact ownsRow_same hown fun t ht => out t (hvm t ht)
  · exact ownsRow_same (ownsRow_same h.touched fun t ht => kp.block t (hmT t ht).2.1 (hmT t ht).2.2) fun t ht => out t (hmT t ht).1
  · intro q hq
    rcases List.mem_append.1 hq with hq | hq
    · exact h.fit q hq
    · rw [List.mem_singleton.1 hq]; exact hp
  · show (s.l ++ [p]).length ≤ 1000
    rw [List.length_append]
    exact hlen
  · refine (kp.mono (G := foot5 s) fun b _ hb => .inr (.inl hb)).trans (keep_set w2 _ v) fun b _ hb => .inl hb
  · rintro b (hb | hb | hb)
    · exact .inl (.inl hb)
    · rcases hl with hl | ⟨q, hq, hl⟩
      · exact .inl (.inr (.inl (by rw [← hl]; exact hb)))
      · right
        have hb2 : v.ownBlock = some b := hb
        rw [hl] at hb2
        simp at hb2
        omega
    · exact .inl (.inr (.inr hb))
end Go.Proofs.Ytodoenimlhldjaa
