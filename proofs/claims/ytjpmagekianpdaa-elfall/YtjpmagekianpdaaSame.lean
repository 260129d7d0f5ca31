/- Two files that are the same. -/
import Derived.Test.YtjpmagekianpdaaFiles
import Derived.Test.YtjpmagekianpdaaTie
namespace Go.Proofs.Ytjpmagekianpdaa
open Go.ChangeShapes Go.WideShapes Go.ChangeAt Go.RowKit
set_option linter.unusedVariables false
section
variable {ρ : Operand → Value} {o : Oper}
theorem load24 {w : World} {a : Addr} {v : Value} (hc : w.cell? a = some v) : (loadVar 24 a).run Try.prog w = .ok v w := by
  simp [loadVar, isAgg, Sem.run_bind, run_underlying Try.underlying24, hc, go_sem]
theorem load43at {w : World} {b o : Nat} {s : Sg} (h : SegAt w b o s) : (loadVar 43 ⟨b, o, none⟩).run Try.prog w = .ok (.agg #[.int .u32 (s.at_ : Int), .string ⟨s.data.toArray⟩, .int .u32 (s.size : Int), .int .i64 s.perm]) w := by
  have hl : (loadCells ⟨b, o, none⟩ 4).run Try.prog w = .ok #[.int .u32 (s.at_ : Int), .string ⟨s.data.toArray⟩, .int .u32 (s.size : Int), .int .i64 s.perm] w :=
    run_loadCells_list (P := Try.prog) w ⟨b, o, none⟩ [.int .u32 (s.at_ : Int), .string ⟨s.data.toArray⟩, .int .u32 (s.size : Int), .int .i64 s.perm] (fun j v hv => by
      rw [Addr.add_lit]
      match j, hv with
      | 0, hv => cases hv; exact h.c0
      | 1, hv => cases hv; exact h.c1
      | 2, hv => cases hv; exact h.c2
      | 3, hv => cases hv; exact h.c3
      | j + 4, hv => simp at hv)
  have hs := size43
  cases hq : Try.prog.info? 43 with
  | none => simp [hq] at hs
  | some i =>
    have hs2 : i.size = 4 := by simpa [hq] using hs
    simp [loadVar, isAgg, Sem.run_bind, run_underlying Try.underlying43, sizeOf, typeInfo, hq, hs2, hl]
theorem exec_index24 {x y : Operand} {b off n cap k : Nat} (hop : o.op = .indexAddr 24 x y) (hx : ρ x = .slice (some ⟨b, off, none⟩) n cap) (hy : ρ y = .int .i64 (k : Int)) (hk : k < n) (w : World) : (execOp ρ o).run Try.prog w = .ok (.value (.pointer (some ⟨b, off + k * 4, none⟩))) w := by
  have hs := size43
  cases hq : Try.prog.info? 43 with
  | none => simp [hq] at hs
  | some i =>
    have hs2 : i.size = 4 := by simpa [hq] using hs
    unfold execOp
    rw [hop]
    simp [hx, hy, Instr.indexAt, run_underlying Try.underlying24, sizeOf, typeInfo, hq, hs2, hk, Addr.add_lit, go_sem]
end
/-- Empty, or full. -/
def ZS (s : Sg) (w : World) (g : Nat) : Prop := Blk w g #[.int .u32 0, .string ⟨#[]⟩, .int .u32 0, .int .i64 0] 43 ∨ Blk w g #[.int .u32 (s.at_ : Int), .string ⟨s.data.toArray⟩, .int .u32 (s.size : Int), .int .i64 s.perm] 43
/-- What was there below m stays; an empty segment may be filled. -/
structure RS (m : Nat) (s : Sg) (u v : World) : Prop where
  below : Below m u v
  zero : ∀ k, Blk u k #[.int .u32 0, .string ⟨#[]⟩, .int .u32 0, .int .i64 0] 43 → ZS s v k
  full : ∀ k, Blk u k #[.int .u32 (s.at_ : Int), .string ⟨s.data.toArray⟩, .int .u32 (s.size : Int), .int .i64 s.perm] 43 → Blk v k #[.int .u32 (s.at_ : Int), .string ⟨s.data.toArray⟩, .int .u32 (s.size : Int), .int .i64 s.perm] 43
theorem ZS.later {s : Sg} {m : Nat} {u v : World} {g : Nat} (h : ZS s u g) (hr : RS m s u v) : ZS s v g := by
  rcases h with h | h
  · exact hr.zero g h
  · exact .inr (hr.full g h)
theorem rs_refl (m : Nat) (s : Sg) (w : World) : RS m s w w := ⟨Below.refl _ _, fun _ h => .inl h, fun _ h => h⟩
theorem rs_trans {m : Nat} {s : Sg} {u v w : World} (h : RS m s u v) (k : RS m s v w) : RS m s u w := ⟨h.below.trans k.below, fun g hg => (h.zero g hg).later k, fun g hg => k.full g (h.full g hg)⟩
theorem rs_of {m : Nat} {s : Sg} {u v : World} (h : Below u.heap.size u v) (hm : m ≤ u.heap.size) : RS m s u v := ⟨h.mono hm, fun _ hg => .inl (hg.later h), fun _ hg => hg.later h⟩
theorem rs_alloc {m : Nat} {s : Sg} {u : World} (hm : m ≤ u.heap.size) (o : Obj) : RS m s u (u.alloc o) := rs_of (below_new u o) hm
theorem later_rs (m : Nat) (s : Sg) : Later (RS m s) := ⟨rs_refl m s, fun _ _ _ h k => rs_trans h k, fun w => ⟨(Below.refl _ w).drew, fun _ h => .inl h, fun _ h => h⟩⟩
theorem Blk.under {u v : World} {m k : Nat} {cs : Array Value} {T : TypeId} (h : Blk u k cs T) (hk : k < m) (hb : Below m u v) : Blk v k cs T := (hb.block k hk).trans h
theorem SegAt.under {u v : World} {m b o : Nat} {s : Sg} (h : SegAt u b o s) (hk : b < m) (hb : Below m u v) : SegAt v b o s :=
  ⟨(hb.cell (p := ⟨b, o, none⟩) hk).trans h.c0, (hb.cell (p := ⟨b, o + 1, none⟩) hk).trans h.c1, (hb.cell (p := ⟨b, o + 2, none⟩) hk).trans h.c2, (hb.cell (p := ⟨b, o + 3, none⟩) hk).trans h.c3, h.fit⟩
theorem seg_facts {s : Sg} {w : World} {g : Nat} (h : Blk w g #[.int .u32 (s.at_ : Int), .string ⟨s.data.toArray⟩, .int .u32 (s.size : Int), .int .i64 s.perm] 43) : w.cell? ⟨g, 0, none⟩ = some (.int .u32 (s.at_ : Int)) ∧ w.cell? ⟨g, 1, none⟩ = some (.string ⟨s.data.toArray⟩) ∧ w.cell? ⟨g, 2, none⟩ = some (.int .u32 (s.size : Int)) ∧ w.cell? ⟨g, 3, none⟩ = some (.int .i64 s.perm) ∧ g < w.heap.size ∧ ∀ j, w.frozen? ⟨g, j, none⟩ = false :=
  ⟨h.cell rfl, h.cell rfl, h.cell rfl, h.cell rfl, h.lt, fun j => frozen_of_row _ _ _ _ _ h⟩
theorem store_cells {w : World} {g : Nat} {a b c d : Value} (h : Blk w g #[a, b, c, d] 43) (s : Sg) {ρ : Operand → Value} {o : Oper} {x y : Operand} (hop : o.op = .store 43 x y) (hx : ρ x = .pointer (some ⟨g, 0, none⟩)) (hy : ρ y = .agg #[.int .u32 (s.at_ : Int), .string ⟨s.data.toArray⟩, .int .u32 (s.size : Int), .int .i64 s.perm]) : (execOp ρ o).run Try.prog w = .ok .skip ((((w.setCell ⟨g, 0, none⟩ (.int .u32 (s.at_ : Int))).setCell ⟨g, 1, none⟩ (.string ⟨s.data.toArray⟩)).setCell ⟨g, 2, none⟩ (.int .u32 (s.size : Int))).setCell ⟨g, 3, none⟩ (.int .i64 s.perm)) := by
  have h0 : w.cell? ⟨g, 0, none⟩ = some a := h.cell rfl
  have h1 : w.cell? ⟨g, 1, none⟩ = some b := h.cell rfl
  have h2 : w.cell? ⟨g, 2, none⟩ = some c := h.cell rfl
  have h3 : w.cell? ⟨g, 3, none⟩ = some d := h.cell rfl
  have hf : ∀ j, w.frozen? ⟨g, j, none⟩ = false := fun j => frozen_of_row _ _ _ _ _ h
  unfold execOp
  rw [hop]
  simp [hx, hy, h0, h1, h2, h3, hf, go_sem]
theorem store_zs {m g : Nat} {a : Sg} {w : World} {ρ : Operand → Value} {o : Oper} {x y : Operand} (hop : o.op = .store 43 x y) (hx : ρ x = .pointer (some ⟨g, 0, none⟩)) (hy : ρ y = .agg #[.int .u32 (a.at_ : Int), .string ⟨a.data.toArray⟩, .int .u32 (a.size : Int), .int .i64 a.perm]) (hm : m ≤ g) (hz : ZS a w g) : ∃ w', (execOp ρ o).run Try.prog w = .ok .skip w' ∧ Blk w' g #[.int .u32 (a.at_ : Int), .string ⟨a.data.toArray⟩, .int .u32 (a.size : Int), .int .i64 a.perm] 43 ∧ RS m a w w' := by
  have key : ∀ {c0 c1 c2 c3 : Value}, Blk w g #[c0, c1, c2, c3] 43 → ∃ w', (execOp ρ o).run Try.prog w = .ok .skip w' ∧ Blk w' g #[.int .u32 (a.at_ : Int), .string ⟨a.data.toArray⟩, .int .u32 (a.size : Int), .int .i64 a.perm] 43 ∧ RS m a w w' := by
    intro c0 c1 c2 c3 h
    have hr := store_cells h a hop hx hy
    have hb : Blk _ g #[.int .u32 (a.at_ : Int), .string ⟨a.data.toArray⟩, .int .u32 (a.size : Int), .int .i64 a.perm] 43 := h.set4 (a' := .int .u32 (a.at_ : Int)) (b' := .string ⟨a.data.toArray⟩) (c' := .int .u32 (a.size : Int)) (d' := .int .i64 a.perm)
    refine ⟨_, hr, hb, below_set4 (Below.refl _ _) hm, fun k hk => ?_, fun k hk => ?_⟩
    · by_cases e : k = g
      · subst e; exact .inr hb
      · exact .inl ((((hk.other e).other e).other e).other e)
    · by_cases e : k = g
      · subst e; exact hb
      · exact (((hk.other e).other e).other e).other e
  rcases hz with h | h
  · exact key h
  · exact key h
theorem wpOp_storeZS {ops : Array Oper} {Q : Exit → Act → World → Prop} {a : Act} {w : World} {K : Act → World → Prop} {i m g : Nat} {s : Sg} {o : Oper} {x y : Operand} (hi : ops[i]? = some o) (hop : o.op = .store 43 x y) (hd : o.dst = none) (hw : Region.wanted o (yielded ops a.tmps) = true) (hx : a.eval x = .pointer (some ⟨g, 0, none⟩)) (hy : a.eval y = .agg #[.int .u32 (s.at_ : Int), .string ⟨s.data.toArray⟩, .int .u32 (s.size : Int), .int .i64 s.perm]) (hm : m ≤ g) (hz : ZS s w g) (h : ∀ w', Blk w' g #[.int .u32 (s.at_ : Int), .string ⟨s.data.toArray⟩, .int .u32 (s.size : Int), .int .i64 s.perm] 43 → RS m s w w' → K a w') : Runs Try.prog ops Q i K a w := by
  obtain ⟨w', hr, h1, h2⟩ := store_zs (ρ := a.eval) hop hx hy hm hz
  constructor
  unfold wpOp
  simp only [hi, hw, if_true]
  left
  unfold Oper.wp
  rw [hr]
  show K (a.put o.dst undef) w'
  rw [hd]
  exact h w' h1 h2
theorem wpList_storeZS {ops : Array Oper} {rest : List Oper} {Q : Exit → Act → World → Prop} {a : Act} {w : World} {m g : Nat} {s : Sg} {o : Oper} {x y : Operand} (hgd : o.guard = none) (hop : o.op = .store 43 x y) (hd : o.dst = none) (hx : a.eval x = .pointer (some ⟨g, 0, none⟩)) (hy : a.eval y = .agg #[.int .u32 (s.at_ : Int), .string ⟨s.data.toArray⟩, .int .u32 (s.size : Int), .int .i64 s.perm]) (hm : m ≤ g) (hz : ZS s w g) (h : ∀ w', Blk w' g #[.int .u32 (s.at_ : Int), .string ⟨s.data.toArray⟩, .int .u32 (s.size : Int), .int .i64 s.perm] 43 → RS m s w w' → wpList Try.prog ops Q rest a w') : wpList Try.prog ops Q (o :: rest) a w := by
  obtain ⟨w', hr, h1, h2⟩ := store_zs (ρ := a.eval) hop hx hy hm hz
  refine wpList_plain hgd fun K hK => ?_
  unfold Oper.wp
  rw [hr]
  show K (a.put o.dst undef) w'
  rw [hd]
  exact hK _ _ (h w' h1 h2)
/-- What the slots of the region hold, whatever the order. -/
def phiSm (na nb k m b1 o1 b2 o2 n cap cap2 : Nat) (s : Sg) : Nat → Value → World → Prop
  | 0, x, _ => x = .pointer (some ⟨na, 1, none⟩)
  | 1, x, _ => x = .slice (some ⟨b1, o1, none⟩) n cap
  | 2, x, _ => x = .int .i64 (k : Int)
  | 3, x, _ => x = .pointer (some ⟨b1, o1 + k * 4, none⟩)
  | 4, x, _ => x = .agg #[.int .u32 (s.at_ : Int), .string ⟨s.data.toArray⟩, .int .u32 (s.size : Int), .int .i64 s.perm]
  | 5, x, _ => x = .pointer (some ⟨nb, 1, none⟩)
  | 6, x, _ => x = .slice (some ⟨b2, o2, none⟩) n cap2
  | 7, x, _ => x = .int .i64 (k : Int)
  | 8, x, _ => x = .pointer (some ⟨b2, o2 + k * 4, none⟩)
  | 9, x, _ => x = .agg #[.int .u32 (s.at_ : Int), .string ⟨s.data.toArray⟩, .int .u32 (s.size : Int), .int .i64 s.perm]
  | 10, x, w => ∃ g, x = .pointer (some ⟨g, 0, none⟩) ∧ m ≤ g ∧ ZS s w g
  | 11, x, w => ∃ g, x = .pointer (some ⟨g, 0, none⟩) ∧ m ≤ g ∧ ZS s w g
  | _ + 12, _, _ => True
theorem phiSm_mono (na nb k m b1 o1 b2 o2 n cap cap2 : Nat) (s : Sg) : ∀ i x w w', phiSm na nb k m b1 o1 b2 o2 n cap cap2 s i x w → RS m s w w' → phiSm na nb k m b1 o1 b2 o2 n cap cap2 s i x w'
  | 0, _, _, _, h, _ => h
  | 1, _, _, _, h, _ => h
  | 2, _, _, _, h, _ => h
  | 3, _, _, _, h, _ => h
  | 4, _, _, _, h, _ => h
  | 5, _, _, _, h, _ => h
  | 6, _, _, _, h, _ => h
  | 7, _, _, _, h, _ => h
  | 8, _, _, _, h, _ => h
  | 9, _, _, _, h, _ => h
  | 10, x, w, w', h, hbl => by obtain ⟨g, e, h1, h2⟩ := h; exact ⟨g, e, h1, h2.later hbl⟩
  | 11, x, w, w', h, hbl => by obtain ⟨g, e, h1, h2⟩ := h; exact ⟨g, e, h1, h2.later hbl⟩
  | _ + 12, _, _, _, _, _ => trivial
/-- With the store that may come early. -/
def phiT (na nb k m b1 o1 b2 o2 n cap cap2 : Nat) (s : Sg) (i : Nat) (xs : List Value) (w : World) : Prop := match i with
  | 12 => ∃ g, xs.getD 10 undef = .pointer (some ⟨g, 0, none⟩) ∧ Blk w g #[.int .u32 (s.at_ : Int), .string ⟨s.data.toArray⟩, .int .u32 (s.size : Int), .int .i64 s.perm] 43
  | i => phiSm na nb k m b1 o1 b2 o2 n cap cap2 s i (xs.getD i undef) w
theorem list13 : ∀ xs : List Value, xs.length = 13 → ∃ x0 x1 x2 x3 x4 x5 x6 x7 x8 x9 x10 x11 x12, xs = [x0, x1, x2, x3, x4, x5, x6, x7, x8, x9, x10, x11, x12]
  | [x0, x1, x2, x3, x4, x5, x6, x7, x8, x9, x10, x11, x12], _ => ⟨_, _, _, _, _, _, _, _, _, _, _, _, _, rfl⟩
set_option maxRecDepth 20000 in
set_option maxHeartbeats 2000000 in
theorem same_any (w : World) (ao bo : Option Addr) (cap cap2 ent : Nat) (l : List Sg) (ha : Segs w ao l) (hb : Segs w bo l) (hc1 : l.length ≤ cap) (hc2 : l.length ≤ cap2) (hm1 : cap ≤ 9223372036854775807) (hm2 : cap2 ≤ 9223372036854775807) : Calls Try.prog 15 #[.agg #[.int .u32 (ent : Int), .slice ao l.length cap], .agg #[.int .u32 (ent : Int), .slice bo l.length cap2]] w fun e w' => e = .returned (.bool true) ∧ Below w.heap.size w w' := by
  have HA := hidden ha
  have HB := hidden hb
  have hb0 := below_new w (.cells #[.int .u32 (ent : Int), .slice ao l.length cap] 26)
  have hb1 := bthen hb0 (below_new (w.alloc (.cells #[.int .u32 (ent : Int), .slice ao l.length cap] 26)) (.cells #[.int .u32 (ent : Int), .slice bo l.length cap2] 26))
  have HFA0 := hidden ((Blk.new w #[.int .u32 (ent : Int), .slice ao l.length cap] 26).later (below_new _ (.cells #[.int .u32 (ent : Int), .slice bo l.length cap2] 26)))
  have hfb := Blk.new (w.alloc (.cells #[.int .u32 (ent : Int), .slice ao l.length cap] 26)) #[.int .u32 (ent : Int), .slice bo l.length cap2] 26
  rw [World.size_alloc] at hfb
  have HFB0 := hidden hfb
  have HB1 := hidden hb1
  clear ha hb hb0 hb1 hfb
  go_enter Try.func15, Try.ntmps15
  go_wp2
  obtain ⟨na, hna⟩ : ∃ na, na = w.heap.size := ⟨_, rfl⟩
  obtain ⟨nb, hnb⟩ : ∃ nb, nb = w.heap.size + 1 := ⟨_, rfl⟩
  rw [← hna] at HFA0
  rw [← hnb] at HFB0
  rw [← hnb, ← hna]
  clear hna hnb
  go_loopw [5] (fun x5 wr => ∃ k : Nat, k ≤ l.length ∧ x5 = .int .i64 (k : Int) ∧ Below w.heap.size w wr ∧ Blk wr na #[.int .u32 (ent : Int), .slice ao l.length cap] 26 ∧ Blk wr nb #[.int .u32 (ent : Int), .slice bo l.length cap2] 26) (fun x5 _ => l.length - (intOf x5).toNat)
  case atStart => exact ⟨0, by omega, rfl, Hid.out HB1, Hid.out HFA0, Hid.out HFB0⟩
  case round =>
    obtain ⟨k, hk, rfl, hbw, hfa, hfb⟩ := hrel
    have HBW := hidden hbw
    have HFA := hidden hfa
    have HFB := hidden hfb
    have i1 : wr.cell? ⟨na, 1, none⟩ = some (.slice ao l.length cap) := hfa.cell rfl
    have hnal := hfa.lt
    by_cases hkl : k < l.length
    · have hkn := hkl
      have hkl2 : (k : Int) < (l.length : Int) := by omega
      obtain ⟨b1, o1, rfl, hlt1, hcs1⟩ := ((Hid.out HA).later hbw).at hkl
      obtain ⟨b2, o2, rfl, hlt2, hcs2⟩ := ((Hid.out HB).later hbw).at hkl
      have hs1 := hcs1 k hkl
      have hs2 := hcs2 k hkl
      generalize l.getD k nosg = s at hs1 hs2
      have HS1 := hidden hs1
      have HS2 := hidden hs2
      clear hs1 hs2 hcs1 hcs2 hbw hfa hfb
      go_wp2
      obtain ⟨m, hm⟩ : ∃ m, m = wr.heap.size := ⟨_, rfl⟩
      refine wp_region_tie (later_rs m s) 13 [29, 30, 31, 32, 33, 34, 35, 36, 37, 38, 6, 7, 1000] (phiT na nb k m b1 o1 b2 o2 l.length cap cap2 s) (by kernel_rfl) (by kernel_rfl) rfl ?_ ?_ ?_
      · intro i j v xs w1 w2 hwt hne hp hR
        by_cases hi : i = 12
        · subst hi
          have hj : j ≠ 10 := by
            rintro rfl
            have h3 : false = true := hwt.symm.trans (by kernel_rfl)
            cases h3
          obtain ⟨g, e, hbk⟩ := hp
          refine ⟨g, ?_, hR.full g hbk⟩
          rw [List.getD_eq_getElem?_getD, List.getElem?_set_ne hj, ← List.getD_eq_getElem?_getD]
          exact e
        · have e1 : ∀ (ys : List Value) (u : World), phiT na nb k m b1 o1 b2 o2 l.length cap cap2 s i ys u = phiSm na nb k m b1 o1 b2 o2 l.length cap cap2 s i (ys.getD i undef) u := by
            intro ys u
            unfold phiT
            split
            · exact absurd rfl hi
            · rfl
          rw [e1] at hp ⊢
          rw [List.getD_eq_getElem?_getD, List.getElem?_set_ne (fun e => hne e.symm), ← List.getD_eq_getElem?_getD]
          exact phiSm_mono na nb k m b1 o1 b2 o2 l.length cap cap2 s i _ w1 w2 hp hR
      · intro j hj xs w3 hxs hR hpre
        obtain ⟨x0, x1, x2, x3, x4, x5, x6, x7, x8, x9, x10, x11, x12, rfl⟩ := list13 xs hxs
        have ha1 : w3.cell? ⟨na, 1, none⟩ = some (.slice (some ⟨b1, o1, none⟩) l.length cap) := ((Hid.out HFA).under (by rw [hm]; exact (Hid.out HFA).lt) hR.below).cell rfl
        have hb1 : w3.cell? ⟨nb, 1, none⟩ = some (.slice (some ⟨b2, o2, none⟩) l.length cap2) := ((Hid.out HFB).under (by rw [hm]; exact (Hid.out HFB).lt) hR.below).cell rfl
        have hs1 : SegAt w3 b1 (o1 + k * 4) s := (Hid.out HS1).under (by rw [hm]; exact hlt1) hR.below
        have hs2 : SegAt w3 b2 (o2 + k * 4) s := (Hid.out HS2).under (by rw [hm]; exact hlt2) hR.below
        rcases (show j = 0 ∨ j = 1 ∨ j = 2 ∨ j = 3 ∨ j = 4 ∨ j = 5 ∨ j = 6 ∨ j = 7 ∨ j = 8 ∨ j = 9 ∨ j = 10 ∨ j = 11 ∨ j = 12 by omega) with rfl | rfl | rfl | rfl | rfl | rfl | rfl | rfl | rfl | rfl | rfl | rfl | rfl
        · exact wpOp_run (.pointer (some ⟨na, 1, none⟩)) rfl (by kernel_rfl) (by kernel_rfl) ⟨_, by kernel_rfl, rfl, rs_refl m s w3⟩
        · have e0 : x0 = .pointer (some ⟨na, 1, none⟩) := hpre 0 (by kernel_rfl)
          subst e0
          exact wpOp_run (.slice (some ⟨b1, o1, none⟩) l.length cap) rfl (by kernel_rfl) (exec_load 24 rfl (by kernel_rfl) w3 (load24 ha1)) ⟨_, by kernel_rfl, rfl, rs_refl m s w3⟩
        · exact wpOp_run (.int .i64 (k : Int)) rfl (by kernel_rfl) (exec_move rfl (by kernel_rfl) w3) ⟨_, by kernel_rfl, rfl, rs_refl m s w3⟩
        · have e1 : x1 = .slice (some ⟨b1, o1, none⟩) l.length cap := hpre 1 (by kernel_rfl)
          subst e1
          have e2 : x2 = .int .i64 (k : Int) := hpre 2 (by kernel_rfl)
          subst e2
          exact wpOp_run (.pointer (some ⟨b1, o1 + k * 4, none⟩)) rfl (by kernel_rfl) (exec_index24 (b := b1) (off := o1) (n := l.length) (cap := cap) (k := k) rfl (by kernel_rfl) (by kernel_rfl) hkn w3) ⟨_, by kernel_rfl, rfl, rs_refl m s w3⟩
        · have e3 : x3 = .pointer (some ⟨b1, o1 + k * 4, none⟩) := hpre 3 (by kernel_rfl)
          subst e3
          exact wpOp_run (.agg #[.int .u32 (s.at_ : Int), .string ⟨s.data.toArray⟩, .int .u32 (s.size : Int), .int .i64 s.perm]) rfl (by kernel_rfl) (exec_load 43 rfl (by kernel_rfl) w3 (load43at hs1)) ⟨_, by kernel_rfl, rfl, rs_refl m s w3⟩
        · exact wpOp_run (.pointer (some ⟨nb, 1, none⟩)) rfl (by kernel_rfl) (by kernel_rfl) ⟨_, by kernel_rfl, rfl, rs_refl m s w3⟩
        · have e5 : x5 = .pointer (some ⟨nb, 1, none⟩) := hpre 5 (by kernel_rfl)
          subst e5
          exact wpOp_run (.slice (some ⟨b2, o2, none⟩) l.length cap2) rfl (by kernel_rfl) (exec_load 24 rfl (by kernel_rfl) w3 (load24 hb1)) ⟨_, by kernel_rfl, rfl, rs_refl m s w3⟩
        · exact wpOp_run (.int .i64 (k : Int)) rfl (by kernel_rfl) (exec_move rfl (by kernel_rfl) w3) ⟨_, by kernel_rfl, rfl, rs_refl m s w3⟩
        · have e6 : x6 = .slice (some ⟨b2, o2, none⟩) l.length cap2 := hpre 6 (by kernel_rfl)
          subst e6
          have e7 : x7 = .int .i64 (k : Int) := hpre 7 (by kernel_rfl)
          subst e7
          exact wpOp_run (.pointer (some ⟨b2, o2 + k * 4, none⟩)) rfl (by kernel_rfl) (exec_index24 (b := b2) (off := o2) (n := l.length) (cap := cap2) (k := k) rfl (by kernel_rfl) (by kernel_rfl) hkn w3) ⟨_, by kernel_rfl, rfl, rs_refl m s w3⟩
        · have e8 : x8 = .pointer (some ⟨b2, o2 + k * 4, none⟩) := hpre 8 (by kernel_rfl)
          subst e8
          exact wpOp_run (.agg #[.int .u32 (s.at_ : Int), .string ⟨s.data.toArray⟩, .int .u32 (s.size : Int), .int .i64 s.perm]) rfl (by kernel_rfl) (exec_load 43 rfl (by kernel_rfl) w3 (load43at hs2)) ⟨_, by kernel_rfl, rfl, rs_refl m s w3⟩
        · exact wpOp_run (.pointer (some ⟨w3.heap.size, 0, none⟩)) rfl (by kernel_rfl) (exec_alloc43 rfl w3) ⟨_, by kernel_rfl, ⟨w3.heap.size, rfl, by rw [hm]; exact hR.below.size, .inl (Blk.new w3 _ 43)⟩, rs_alloc (by rw [hm]; exact hR.below.size) _⟩
        · exact wpOp_run (.pointer (some ⟨w3.heap.size, 0, none⟩)) rfl (by kernel_rfl) (exec_alloc43 rfl w3) ⟨_, by kernel_rfl, ⟨w3.heap.size, rfl, by rw [hm]; exact hR.below.size, .inl (Blk.new w3 _ 43)⟩, rs_alloc (by rw [hm]; exact hR.below.size) _⟩
        · have f10 : ∃ g, x10 = .pointer (some ⟨g, 0, none⟩) ∧ m ≤ g ∧ ZS s w3 g := hpre 10 (by kernel_rfl)
          obtain ⟨g10, e10, hm10, hg10⟩ := f10
          subst e10
          have e4 : x4 = .agg #[.int .u32 (s.at_ : Int), .string ⟨s.data.toArray⟩, .int .u32 (s.size : Int), .int .i64 s.perm] := hpre 4 (by kernel_rfl)
          subst e4
          refine wpOp_storeZS (m := m) (s := s) (g := g10) rfl rfl rfl (by kernel_rfl) (by kernel_rfl) (by kernel_rfl) hm10 hg10 ?_
          intro w5 hbk hrs
          exact ⟨undef, by kernel_rfl, ⟨g10, rfl, hbk⟩, hrs⟩
      · intro xs w3 hxs hR hall
        obtain ⟨x0, x1, x2, x3, x4, x5, x6, x7, x8, x9, x10, x11, x12, rfl⟩ := list13 xs hxs
        have e0 : x0 = .pointer (some ⟨na, 1, none⟩) := hall 0 (by omega)
        subst e0
        have e1 : x1 = .slice (some ⟨b1, o1, none⟩) l.length cap := hall 1 (by omega)
        subst e1
        have e2 : x2 = .int .i64 (k : Int) := hall 2 (by omega)
        subst e2
        have e3 : x3 = .pointer (some ⟨b1, o1 + k * 4, none⟩) := hall 3 (by omega)
        subst e3
        have e4 : x4 = .agg #[.int .u32 (s.at_ : Int), .string ⟨s.data.toArray⟩, .int .u32 (s.size : Int), .int .i64 s.perm] := hall 4 (by omega)
        subst e4
        have e5 : x5 = .pointer (some ⟨nb, 1, none⟩) := hall 5 (by omega)
        subst e5
        have e6 : x6 = .slice (some ⟨b2, o2, none⟩) l.length cap2 := hall 6 (by omega)
        subst e6
        have e7 : x7 = .int .i64 (k : Int) := hall 7 (by omega)
        subst e7
        have e8 : x8 = .pointer (some ⟨b2, o2 + k * 4, none⟩) := hall 8 (by omega)
        subst e8
        have e9 : x9 = .agg #[.int .u32 (s.at_ : Int), .string ⟨s.data.toArray⟩, .int .u32 (s.size : Int), .int .i64 s.perm] := hall 9 (by omega)
        subst e9
        have f10 : ∃ g, x10 = .pointer (some ⟨g, 0, none⟩) ∧ m ≤ g ∧ ZS s w3 g := hall 10 (by omega)
        obtain ⟨g10, e10, hm10, hg10⟩ := f10
        subst e10
        have f11 : ∃ g, x11 = .pointer (some ⟨g, 0, none⟩) ∧ m ≤ g ∧ ZS s w3 g := hall 11 (by omega)
        obtain ⟨g11, e11, hm11, hg11⟩ := f11
        subst e11
        have HR5 := hidden (bthen (Hid.out HBW) (by rw [← hm]; exact hR.below))
        have HFA5 := hidden ((Hid.out HFA).under (by rw [hm]; exact (Hid.out HFA).lt) hR.below)
        have HFB5 := hidden ((Hid.out HFB).under (by rw [hm]; exact (Hid.out HFB).lt) hR.below)
        have hg12 : ∃ g, (Value.pointer (some ⟨g10, 0, none⟩)) = .pointer (some ⟨g, 0, none⟩) ∧ Blk w3 g #[.int .u32 (s.at_ : Int), .string ⟨s.data.toArray⟩, .int .u32 (s.size : Int), .int .i64 s.perm] 43 := hall 12 (by omega)
        obtain ⟨g12, e12, hbk12⟩ := hg12
        simp only [Value.pointer.injEq, Option.some.injEq, Addr.mk.injEq, and_true] at e12
        subst e12
        have HG0 := hidden hbk12
        have HG1 := hidden hg11
        have HM0 := hidden hm10
        have HM1 := hidden hm11
        clear hall hR hxs hg10 hg11 hm10 hm11 hbk12
        simp only [slotsOn, putAll, List.set_cons_succ, List.set_cons_zero, List.drop_succ_cons, List.drop_zero]
        have hm0 := Hid.out HM0
        have hm1 := Hid.out HM1
        have hnam : na < m := by rw [hm]; exact (Hid.out HFA).lt
        have hnbm : nb < m := by rw [hm]; exact (Hid.out HFB).lt
        have hwm : w.heap.size ≤ m := by rw [hm]; exact (Hid.out HBW).size
        refine wpList_storeZS (m := m) (s := s) (g := g11) rfl rfl rfl (by kernel_rfl) (by kernel_rfl) hm1 (Hid.out HG1) ?_
        intro wf hf1 hrs
        have hf0 := hrs.full g10 (Hid.out HG0)
        have hbf : Below w.heap.size w wf := (Hid.out HR5).trans (hrs.below.mono hwm)
        have hfa := (Hid.out HFA5).under hnam hrs.below
        have hfb := (Hid.out HFB5).under hnbm hrs.below
        clear hrs
        have hz0 : wf.cell? ⟨g10, 0, none⟩ = some (.int .u32 (s.at_ : Int)) := hf0.cell rfl
        have hz1 : wf.cell? ⟨g10, 1, none⟩ = some (.string ⟨s.data.toArray⟩) := hf0.cell rfl
        have hz2 : wf.cell? ⟨g10, 2, none⟩ = some (.int .u32 (s.size : Int)) := hf0.cell rfl
        have hz3 : wf.cell? ⟨g10, 3, none⟩ = some (.int .i64 s.perm) := hf0.cell rfl
        have hy0 : wf.cell? ⟨g11, 0, none⟩ = some (.int .u32 (s.at_ : Int)) := hf1.cell rfl
        have hy1 : wf.cell? ⟨g11, 1, none⟩ = some (.string ⟨s.data.toArray⟩) := hf1.cell rfl
        have hy2 : wf.cell? ⟨g11, 2, none⟩ = some (.int .u32 (s.size : Int)) := hf1.cell rfl
        have hy3 : wf.cell? ⟨g11, 3, none⟩ = some (.int .i64 s.perm) := hf1.cell rfl
        have hl0 := hf0.lt
        have hl1 := hf1.lt
        have HFF := hidden hbf
        have HFAf := hidden hfa
        have HFBf := hidden hfb
        clear hf0 hf1 hbf hfa hfb
        go_wp2
        go_roundw
        case rel => first | exact ⟨k + 1, by omega, by simp, Hid.out HFF, Hid.out HFAf, Hid.out HFBf⟩ | ((repeat apply Exists.intro); first | exact ⟨⟨k + 1, by omega, by simp, Hid.out HFF, Hid.out HFAf, Hid.out HFBf⟩, rfl⟩ | exact ⟨⟨k + 1, by omega, by simp, Hid.out HFF, Hid.out HFAf, Hid.out HFBf⟩, rfl, rfl⟩ | exact ⟨⟨k + 1, by omega, by simp, Hid.out HFF, Hid.out HFAf, Hid.out HFBf⟩, rfl, rfl, rfl⟩)
        case measure => simp [intOf]; omega
    · have hkl2 : ¬ (k : Int) < (l.length : Int) := by omega
      clear hbw hfa hfb
      go_wp2
      go_ret
      exact ⟨rfl, Hid.out HBW⟩
end Go.Proofs.Ytjpmagekianpdaa
