/- A region that draws its order, where one of its operations, s, turns what others have read: those that s waits for come ahead of it. -/
import Derived.Test.YtodoenimlhldjaaBMAR
import Derived.Test.YtodoenimlhldjaaBMAH
namespace Go.Proofs.Ytodoenimlhldjaa
open Go Go.RowKit
set_option linter.unusedVariables false
section
variable {P : Program}
theorem wp_region_two {R0 R : World → World → Prop} (hR0 : Later R0) (hR : Later R) (h01 : ∀ u v, R0 u v → R u v) (s : Nat) (Rj : Nat → World → World → Prop) (hRj : ∀ j u v, j ≠ s → Rj j u v → R0 u v) (hRs : ∀ u v, Rj s u v → R u v) {id : Nat} {Q : Exit → Act → World → Prop} {a : Act} {w : World} {l : List Oper} (n : Nat) (ds : List Nat) (Φ : Nat → List Value → World → Prop) (hm : P.follows .mixedOrders = true) (hB : headOkB l.toArray n = true) (hd : ds.length = n)
    (hmono : ∀ i j v xs w w', waitsB .any l.toArray i j = false → i ≠ j → Φ i xs w → Rj j w w' → Φ i (xs.set j v) w')
    (hstep : ∀ j, j < n → ∀ xs w', xs.length = n → R w w' → (j = s ∨ waitsB .any l.toArray s j = true → R0 w w') → (∀ i, waitsB .any l.toArray j i = true → Φ i xs w') →
      Runs P l.toArray Q j (fun a' w'' => ∃ v, a' = slotsOn a ds (xs.set j v) ∧ Φ j (xs.set j v) w'' ∧ Rj j w' w'') (slotsOn a ds xs) w')
    (hfin : ∀ xs w', xs.length = n → R w w' → (∀ i, i < n → Φ i xs w') → wpList P l.toArray Q (l.drop n) (slotsOn a ds xs) w') :
    (Code.region id l.toArray true).wp P Q a w := by
  simp only [headOkB, Bool.and_eq_true, decide_eq_true_eq] at hB
  obtain ⟨⟨⟨⟨hn, hs⟩, hc⟩, hb⟩, hq⟩ := hB
  have key : ∀ (c : Nat) (L : Array Bool) (xs : List Value) (w' : World), HeadInv .any l.toArray n L → xs.length = n → R w w' → (L.getD s false = false → R0 w w') → (∀ i, i < n → L.getD i false = true → Φ i xs w') → (L.toList.take n).count false = c →
      wpAny P .any l.toArray Q (c + (l.toArray.size - n)) L (slotsOn a ds xs) w' := by
    intro c
    induction c with
    | zero =>
      intro L xs w' inv hx hR' hS' hΦ h0
      have hall : ∀ i, i < n → L.getD i false = true := by
        intro i hi
        cases h : L.getD i false with
        | true => rfl
        | false =>
          exfalso
          have hlt : i < L.size := by rw [inv.size]; omega
          have : false ∈ L.toList.take n := by
            rw [List.mem_iff_getElem?]
            refine ⟨i, ?_⟩
            rw [List.getElem?_take_of_lt hi]
            simp [hlt] at h ⊢
            exact h
          have := List.count_pos_iff.2 this
          omega
      have e := headDone_eq (L := L) (n := n) (g := l.toArray.size - n) (by rw [inv.size]; omega) hall (fun i h1 h2 => inv.tail i h1 (by omega))
      have hdl : (l.drop n).length = l.toArray.size - n := by simp
      have := wpAny_of_seq (P := P) (md := .any) (Q' := Q) (l.drop n) n L (slotsOn a ds xs) w' (fun j => by simp [List.getElem?_drop]) (by rw [hdl, e]; exact hq) (hfin xs w' hx hR' fun i hi => hΦ i hi (hall i hi))
      rw [hdl] at this
      rw [Nat.zero_add]
      exact this
    | succ c ih =>
      intro L xs w' inv hx hR' hS' hΦ h0
      obtain ⟨q, hq1, hq2⟩ : ∃ q, q < n ∧ L.getD q true = false := by
        have : false ∈ L.toList.take n := List.count_pos_iff.1 (by omega)
        obtain ⟨i, hi⟩ := List.mem_iff_getElem?.1 this
        have hin : i < n := by
          have := (List.getElem?_eq_some_iff.1 hi).1
          simp at this
          omega
        rw [List.getElem?_take_of_lt hin] at hi
        have hlt : i < L.size := by rw [inv.size]; omega
        refine ⟨i, hin, ?_⟩
        simp [hlt] at hi ⊢
        exact hi
      have hlow : ∀ j ∈ Region.ready .any l.toArray L, j < n := fun j hj => Nat.lt_of_not_le fun h => tail_waits hs hc hn inv _ q rfl hq1 hq2 j h hj
      rw [show c + 1 + (l.toArray.size - n) = (c + (l.toArray.size - n)) + 1 by omega]
      refine ⟨fun hno => ?_, fun i hi => ?_⟩
      · exfalso
        have := all_up hb inv.size hno q (by omega)
        rw [getD_both hq2] at this
        cases this
      · have hin := hlow i hi
        obtain ⟨hl, o, ho, hall⟩ := mem_ready.1 hi
        have hback : ∀ k, L.getD k false = true → waitsB .any l.toArray k i = false := by
          intro k hLk
          cases hwt : waitsB .any l.toArray k i with
          | false => rfl
          | true =>
            exfalso
            unfold waitsB at hwt
            cases hok : l.toArray[k]? with
            | none => rw [hok] at hwt; simp at hwt
            | some ok =>
              rw [hok] at hwt
              obtain ⟨e, he, hbb⟩ := Array.any_eq_true'.1 hwt
              simp only [Bool.and_eq_true, beq_iff_eq] at hbb
              have := inv.closed k ok hok hLk e he hbb.1
              rw [hbb.2, getD_both hl] at this
              cases this
        have hr := hstep i hin xs w' hx hR' (fun hw => by
          refine hS' ?_
          rcases hw with rfl | hw
          · exact getD_both hl
          cases h : L.getD s false with
          | false => rfl
          | true =>
            have := hback s h
            rw [hw] at this
            cases this) (fun j hj => by
          simp only [waitsB, ho] at hj
          obtain ⟨e, he, hbb⟩ := Array.any_eq_true'.1 hj
          simp only [Bool.and_eq_true, beq_iff_eq] at hbb
          have hlt := edge_back hb ho he hbb.1
          rw [← hbb.2]
          exact hΦ e.on (by omega) (hall e he hbb.1))
        refine wpOp_mono ?_ hr.out
        rintro a' w'' ⟨v, rfl, hv, hR''⟩
        have hlt : i < L.size := by rw [inv.size]; omega
        have hRR : R w' w'' := by
          by_cases his : i = s
          · subst his; exact hRs _ _ hR''
          · exact h01 _ _ (hRj _ _ _ his hR'')
        refine ih (L.setIfInBounds i true) (xs.set i v) w'' (inv.set hi hin) (by simpa using hx) (hR.trans _ _ _ hR' hRR) ?_ ?_ ?_
        · intro hLs
          by_cases his : i = s
          · subst his
            exfalso
            simp [hlt] at hLs
          · rw [getD_set_ne false his] at hLs
            exact hR0.trans _ _ _ (hS' hLs) (hRj _ _ _ his hR'')
        · intro k hk hLk
          by_cases hik : i = k
          · subst hik
            exact hv
          · rw [getD_set_ne false hik] at hLk
            exact hmono k i v xs w' w'' (hback k hLk) (fun e => hik e.symm) (hΦ k hk hLk) hR''
        · rw [Array.toList_setIfInBounds]
          have hf : L.toList[i]? = some false := by
            simp [hlt] at hl ⊢
            exact hl
          have := count_head L.toList n i hf hin
          omega
  have inv0 : HeadInv .any l.toArray n (Array.replicate l.toArray.size false) :=
    ⟨by simp, fun j oj _ hl => (by rw [getD_replicate_false] at hl; cases hl), fun t _ ht => getD_in (by simpa using ht) (getD_replicate_false _ _)⟩
  refine wp_region_any hm ?_
  have hsz : n < l.length := by simpa using hn
  have h := key n (Array.replicate l.toArray.size false) (ds.map fun d => a.tmps.toList.getD d undef) _ inv0 (by simpa using hd) (hR.drew w) (fun _ => hR0.drew w) (fun i _ h => by rw [getD_replicate_false] at h; cases h) (by
    simp only [Array.toList_replicate, List.take_replicate, List.count_replicate_self]
    simp
    omega)
  rw [show n + (l.toArray.size - n) = l.toArray.size by omega, slotsOn_self] at h
  exact h
end
end Go.Proofs.Ytodoenimlhldjaa
namespace Go.Proofs.Ytodoenimlhldjaa
open Go.ChangeShapes Go.WideShapes Go.ChangeAt Go.RowKit
set_option linter.unusedVariables false
theorem size100 : (Try.prog.info? 116).map (·.size) = some 259 := by kernel_rfl
theorem Step5.later {w w1 w2 : World} {s t : S5} (h : Step5 w s w1 t) (hb : Below w1.heap.size w1 w2) : Step5 w s w2 t := by
  have hl : ∀ b, foot5 t b → b < w1.heap.size := by
    rintro b (hb | hb | hb)
    · rw [hb]; exact h.mem.lt
    · obtain ⟨c, hc⟩ := h.mem.blkP hb; exact hc.lt
    · obtain ⟨c, hc⟩ := h.mem.blkT hb; exact hc.lt
  refine ⟨⟨h.mem.self.later hb, ownsRow_same h.mem.pages fun g hg => hb.block g (hl g (.inr (.inl hg))), ownsRow_same h.mem.touched fun g hg => hb.block g (hl g (.inr (.inr hg))), h.mem.fit, h.mem.few⟩, h.keep.trans (Keep.of_below (F := nought) hb) fun b _ hn => hn.elim, h.grow⟩
theorem later_bel : Later (fun u x : World => Below u.heap.size u x) := ⟨fun w => Below.refl _ w, fun _ _ _ h k => bthen h k, fun w => (Below.refl _ w).drew⟩
theorem later_keep (g : Nat) : Later (Keep (· = g)) := ⟨fun w => Keep.refl _ w, fun _ _ _ h k => h.trans k fun _ _ hb => hb, fun w => (Keep.refl _ w).drewN 1⟩
section
variable {ρ : Operand → Value} {o : Oper}
theorem exec_index100 {x y : Operand} {b off n cap k : Nat} (hop : o.op = .indexAddr 94 x y) (hx : ρ x = .slice (some ⟨b, off, none⟩) n cap) (hy : ρ y = .int .i64 (k : Int)) (hk : k < n) (w : World) : (execOp ρ o).run Try.prog w = .ok (.value (.pointer (some ⟨b, off + k * 259, none⟩))) w := by
  have hs := size100
  cases hq : Try.prog.info? 116 with
  | none => simp [hq] at hs
  | some i =>
    have hs2 : i.size = 259 := by simpa [hq] using hs
    unfold execOp
    rw [hop]
    simp [hx, hy, Instr.indexAt, run_underlying Try.underlying94, sizeOf, typeInfo, hq, hs2, hk, Addr.add_lit, go_sem]
theorem exec_less1 {x : Operand} {k : Nat} (hop : o.op = .binOp .sub 3 x (.const (.int .i64 1)) 3) (hx : ρ x = .int .i64 ((k + 1 : Nat) : Int) ∧ ρ (.const (.int .i64 1)) = .int .i64 1) (hk : k < 100000) (w : World) : (execOp ρ o).run Try.prog w = .ok (.value (.int .i64 (k : Int))) w := by
  have e : IntKind.i64.wrap (((k + 1 : Nat) : Int) - 1) = (k : Int) := by rw [IntKind.wrap_i64]; omega
  unfold execOp
  rw [hop]
  simp only [hx.1, hx.2]
  simp [go_sem]
  rw [IntKind.wrap_i64]
  omega
end
theorem load100 {w : World} {b o : Nat} {p : P5} (hp : Fit5 p) (h : w.rangeAt b o (one5 p)) : (loadVar 116 ⟨b, o, none⟩).run Try.prog w = .ok (.agg (one5 p).toArray) w :=
  run_loadVar_mid w b o 116 (one5 p) _ h Try.underlying116 rfl (by rw [one5_len hp]; exact size100)
theorem wpOp_store100 {ops : Array Oper} {Q : Exit → Act → World → Prop} {a : Act} {w : World} {K : Act → World → Prop} {i b off : Nat} {p : P5} {o : Oper} {x y : Operand} (hp : Fit5 p) (hi : ops[i]? = some o) (hw : Region.wanted o (yielded ops a.tmps) = true) (ho : o.op = .store 116 x y) (hd : o.dst = none) (hx : a.eval x = .pointer (some ⟨b, off, none⟩)) (hy : a.eval y = .agg (one5 p).toArray) (ht : w.there b off 259) (h : K a (w.setCells b off (one5 p))) : Runs Try.prog ops Q i K a w := by
  have hs : (one5 p).toArray.size = 259 := by rw [List.size_toArray, one5_len hp]
  constructor
  unfold wpOp
  simp only [hi, hw, if_true]
  left
  exact wp_store_mid 116 x y ho b off (one5 p).toArray hx hy (by rw [hs]; exact ht) (by rw [hs]; exact size100) (all_oneCell_toArray (one5_one p)) (by rw [hd]; exact h)
theorem M5.there {w : World} {s : S5} (h : M5 w s) {k g off cap : Nat} (hk : k < s.l.length) (hv : s.vP = .slice (some ⟨g, off, none⟩) s.l.length cap) : w.there g (off + k * 259) 259 := by
  obtain ⟨g2, off2, cap2, h0, hv2, _, hth, _, hc⟩ := h.row hk
  rw [hv] at hv2
  simp only [Value.slice.injEq, Option.some.injEq, Addr.mk.injEq, and_true, true_and] at hv2
  obtain ⟨⟨rfl, rfl⟩, rfl⟩ := hv2
  intro j hj
  refine ⟨?_, hth _⟩
  rw [hc k j _ hk hj (List.getElem?_eq_getElem (by rw [one5_len (h.fitAt hk)]; exact hj))]
  rfl
theorem swap_list {l : List P5} {k : Nat} (h : k < l.length) (pg : P5) : ((l.take (k + 1) ++ pg :: l.drop (k + 1)).set (k + 1) (l.getD k nop5)).set k pg = l.take k ++ pg :: l.drop k := by
  have eg : l.getD k nop5 = l[k] := by rw [List.getD_eq_getElem?_getD, List.getElem?_eq_getElem h]; rfl
  have e1 : l.take (k + 1) = l.take k ++ [l[k]] := by rw [List.take_add_one, List.getElem?_eq_getElem h]; rfl
  have e2 : l.drop k = l[k] :: l.drop (k + 1) := List.drop_eq_getElem_cons h
  have e3 : (l.take k).length = k := by simp; omega
  rw [eg, e1, e2, List.append_assoc, List.set_append_right _ _ (by omega), e3, List.set_append_right _ _ (by omega), e3, Nat.sub_self, show k + 1 - k = 1 by omega]
  rfl
theorem bel_two {j g : Nat} {u x : World} (hj : j ≠ 27) (h : Below u.heap.size u x) : if j = 27 then Keep (· = g) u x else Below u.heap.size u x := by rw [if_neg hj]; exact h
/-- What the slots of the region hold, whatever the order. -/
def phiSw (m g off n1 cap k : Nat) (px py : P5) (wr : World) (st st1 : S5) : Nat → Value → World → Prop
  | 0, x, _ => x = .pointer (some ⟨m, 0, none⟩)
  | 1, x, _ => x = .pointer (some ⟨m, 0, none⟩)
  | 2, x, _ => x = .pointer (some ⟨m, 1, none⟩)
  | 3, x, _ => x = .slice (some ⟨g, off, none⟩) n1 cap
  | 4, x, _ => x = .int .i64 ((k + 1 : Nat) : Int)
  | 5, x, _ => x = .pointer (some ⟨m, 0, none⟩)
  | 6, x, _ => x = .pointer (some ⟨m, 0, none⟩)
  | 7, x, _ => x = .pointer (some ⟨m, 1, none⟩)
  | 8, x, _ => x = .slice (some ⟨g, off, none⟩) n1 cap
  | 9, x, _ => x = .int .i64 ((k + 1 : Nat) : Int)
  | 10, x, _ => x = .int .i64 (k : Int)
  | 11, x, _ => x = .pointer (some ⟨m, 0, none⟩)
  | 12, x, _ => x = .pointer (some ⟨m, 0, none⟩)
  | 13, x, _ => x = .pointer (some ⟨m, 1, none⟩)
  | 14, x, _ => x = .slice (some ⟨g, off, none⟩) n1 cap
  | 15, x, _ => x = .int .i64 ((k + 1 : Nat) : Int)
  | 16, x, _ => x = .int .i64 (k : Int)
  | 17, x, _ => x = .pointer (some ⟨g, off + k * 259, none⟩)
  | 18, x, _ => x = .agg (one5 px).toArray
  | 19, x, _ => x = .pointer (some ⟨m, 0, none⟩)
  | 20, x, _ => x = .pointer (some ⟨m, 0, none⟩)
  | 21, x, _ => x = .pointer (some ⟨m, 1, none⟩)
  | 22, x, _ => x = .slice (some ⟨g, off, none⟩) n1 cap
  | 23, x, _ => x = .int .i64 ((k + 1 : Nat) : Int)
  | 24, x, _ => x = .pointer (some ⟨g, off + (k + 1) * 259, none⟩)
  | 25, x, _ => x = .agg (one5 py).toArray
  | 26, x, _ => x = .pointer (some ⟨g, off + (k + 1) * 259, none⟩)
  | 27, _, w => Step5 wr st w st1
  | 28, x, _ => x = .pointer (some ⟨g, off + k * 259, none⟩)
  | _ + 29, _, _ => True
theorem phiSw_mono (m g off n1 cap k : Nat) (px py : P5) (wr : World) (st st1 : S5) : ∀ i j x y w w', phiSw m g off n1 cap k px py wr st st1 i x w → (if j = 27 then Keep (· = g) w w' else Below w.heap.size w w') → i ≠ j → (i ≠ 27 → x = y) → phiSw m g off n1 cap k px py wr st st1 i y w'
  | 0, _, _, _, _, _, h, _, _, e => (e (by decide)) ▸ h
  | 1, _, _, _, _, _, h, _, _, e => (e (by decide)) ▸ h
  | 2, _, _, _, _, _, h, _, _, e => (e (by decide)) ▸ h
  | 3, _, _, _, _, _, h, _, _, e => (e (by decide)) ▸ h
  | 4, _, _, _, _, _, h, _, _, e => (e (by decide)) ▸ h
  | 5, _, _, _, _, _, h, _, _, e => (e (by decide)) ▸ h
  | 6, _, _, _, _, _, h, _, _, e => (e (by decide)) ▸ h
  | 7, _, _, _, _, _, h, _, _, e => (e (by decide)) ▸ h
  | 8, _, _, _, _, _, h, _, _, e => (e (by decide)) ▸ h
  | 9, _, _, _, _, _, h, _, _, e => (e (by decide)) ▸ h
  | 10, _, _, _, _, _, h, _, _, e => (e (by decide)) ▸ h
  | 11, _, _, _, _, _, h, _, _, e => (e (by decide)) ▸ h
  | 12, _, _, _, _, _, h, _, _, e => (e (by decide)) ▸ h
  | 13, _, _, _, _, _, h, _, _, e => (e (by decide)) ▸ h
  | 14, _, _, _, _, _, h, _, _, e => (e (by decide)) ▸ h
  | 15, _, _, _, _, _, h, _, _, e => (e (by decide)) ▸ h
  | 16, _, _, _, _, _, h, _, _, e => (e (by decide)) ▸ h
  | 17, _, _, _, _, _, h, _, _, e => (e (by decide)) ▸ h
  | 18, _, _, _, _, _, h, _, _, e => (e (by decide)) ▸ h
  | 19, _, _, _, _, _, h, _, _, e => (e (by decide)) ▸ h
  | 20, _, _, _, _, _, h, _, _, e => (e (by decide)) ▸ h
  | 21, _, _, _, _, _, h, _, _, e => (e (by decide)) ▸ h
  | 22, _, _, _, _, _, h, _, _, e => (e (by decide)) ▸ h
  | 23, _, _, _, _, _, h, _, _, e => (e (by decide)) ▸ h
  | 24, _, _, _, _, _, h, _, _, e => (e (by decide)) ▸ h
  | 25, _, _, _, _, _, h, _, _, e => (e (by decide)) ▸ h
  | 26, _, _, _, _, _, h, _, _, e => (e (by decide)) ▸ h
  | 27, j, x, y, w, w', h, hr, hn, _ => by
    rw [if_neg (fun e => hn e.symm)] at hr
    exact Step5.later h hr
  | 28, _, _, _, _, _, h, _, _, e => (e (by decide)) ▸ h
  | _ + 29, _, _, _, _, _, _, _, _, _ => trivial
theorem list29 : ∀ xs : List Value, xs.length = 29 → ∃ x0 x1 x2 x3 x4 x5 x6 x7 x8 x9 x10 x11 x12 x13 x14 x15 x16 x17 x18 x19 x20 x21 x22 x23 x24 x25 x26 x27 x28, xs = [x0, x1, x2, x3, x4, x5, x6, x7, x8, x9, x10, x11, x12, x13, x14, x15, x16, x17, x18, x19, x20, x21, x22, x23, x24, x25, x26, x27, x28]
  | [x0, x1, x2, x3, x4, x5, x6, x7, x8, x9, x10, x11, x12, x13, x14, x15, x16, x17, x18, x19, x20, x21, x22, x23, x24, x25, x26, x27, x28], _ => ⟨_, _, _, _, _, _, _, _, _, _, _, _, _, _, _, _, _, _, _, _, _, _, _, _, _, _, _, _, _, rfl⟩
end Go.Proofs.Ytodoenimlhldjaa
namespace Go.Proofs.Ytodoenimlhldjaa
open Go.ChangeShapes Go.WideShapes Go.ChangeAt Go.RowKit
set_option linter.unusedVariables false
set_option maxRecDepth 20000 in
set_option maxHeartbeats 8000000 in
theorem map5_new (w : World) (s : S5) (h : M5 w s) (a : Nat) (z : Int) (ha : a < 4294967296) (hn : ¬ find5 s.l (a / 256 * 256) < s.l.length) (hroom : s.l.length < s.most) (hlen : s.l.length < 1000) :
    Calls Try.prog 31 #[.pointer (some ⟨s.m, 0, none⟩), .int .u32 (a : Int), .int .i64 z] w fun e w' => e = .returned (.int .i64 0) ∧ ∃ s', Step5 w s w' s' ∧ s'.m = s.m ∧ s'.most = s.most ∧ s'.ts = s.ts ∧ ∃ i, i ≤ s.l.length ∧ s'.l = s.l.take i ++ page5 (a / 256 * 256) (bits .and .i64 z 7) :: s.l.drop i ∧ (∀ k, i = k + 1 → ¬ a / 256 * 256 < (s.l.getD k nop5).at_) ∧ ∀ j, i ≤ j → j < s.l.length → a / 256 * 256 < (s.l.getD j nop5).at_ := by
  obtain ⟨ao, cap, hv, hps⟩ := h.ps
  have hP : w.cell? ⟨s.m, 1, none⟩ = some (.slice ao s.l.length cap) := by rw [h.cellP, hv]
  have C := hidden (find_any w s.m ao cap a s.l hps hP h.few ha)
  rw [find5I_no hn] at C
  have h0 : w.cell? ⟨s.m, 0, none⟩ = some (.int .i64 (s.most : Int)) := h.self.cell rfl
  have hroom2 : ¬ (s.most : Int) ≤ (s.l.length : Int) := by omega
  obtain ⟨p, hp⟩ : ∃ p, a / 256 * 256 = p := ⟨_, rfl⟩
  have C60 : Hid (∀ u, Calls Try.prog 62 #[.int .u32 (a : Int)] u fun e w' => e = .returned (.int .u32 (p : Int)) ∧ w' = u) := fun u => by rw [← hp]; exact page5_any a ha u
  have hplt : p < 4294967296 := by omega
  rw [hp]
  have H := hidden h
  have HL : Hid (s.l.length ≤ 1000) := by show s.l.length ≤ 1000; omega
  have HLL := hidden hlen
  obtain ⟨zz, hzz⟩ : ∃ zz, bits .and .i64 z 7 = zz := ⟨_, rfl⟩
  have HZZ : Hid (Value.int .i64 (bits .and .i64 z 7) = .int .i64 zz) := by show _ = _; rw [hzz]
  rw [hzz]
  have HF := hidden (page5_fit hplt zz)
  have HFIT := hidden h.fit
  have HV := hidden hv
  clear h hps hn hlen hp hv hzz
  go_enter Try.func31, Try.ntmps31
  go_wp2_with (first | (go_at_call 61; refine (Hid.out C).mono ?_; rintro e w4 ⟨rfl, hww⟩; rw [hww]; clear hww w4))
  go_region
  all_goals go_wp2
  generalize hw1 : w.drew = w1
  have hM1 : M5 w1 s := by rw [← hw1]; exact (Hid.out H).drewN 1
  have hst1 : Step5 w s w1 s := by rw [← hw1]; exact ⟨(Hid.out H).drewN 1, (Keep.refl _ _).drewN 1, fun _ hb => .inl hb⟩
  have HST1 := hidden hst1
  have HM1 := hidden hM1
  obtain ⟨m, hm⟩ : ∃ m, s.m = m := ⟨_, rfl⟩
  obtain ⟨v, hvv⟩ : ∃ v, s.vP = v := ⟨_, rfl⟩
  have HMM := hidden hm
  have HVV := hidden hvv
  have hself : Blk w1 m #[.int .i64 (s.most : Int), v, s.vT] 96 := by rw [← hm, ← hvv]; exact hM1.self
  have HSELF := hidden hself
  have HOV : Hid (Out5 w1 v s.l) := by rw [← hvv]; exact hM1.pages
  have HNE : Hid (some m ≠ v.ownBlock) := by
    intro e
    obtain ⟨c, hc⟩ := hM1.blkP (g := m) (by rw [hvv]; exact e.symm)
    exact blk_ne hself (show Blk w1 m c 116 from hc) (by decide) rfl
  rw [hm] at hP h0 C ⊢
  clear hM1 hw1 hst1 hself hm hvv hP h0 C
  refine wp_region_by (later_rm5 v) (fun j u x => if j = 11 then RM5 v u x else Below u.heap.size u x) (rm5_of v) 14 [42, 43, 44, 45, 46, 47, 48, 49, 50, 51, 52, 53, 54, 55] (fun i' xs' w' => phiM5 m a p w1.heap.size z zz v s.l i' (xs'.getD i' undef) w') (by kernel_rfl) (by kernel_rfl) rfl ?_ ?_ ?_
  · intro i' j v' xs u1 u2 hwt hnej hp hRj
    have hg' : (xs.set j v').getD i' undef = xs.getD i' undef := by rw [List.getD_eq_getElem?_getD, List.getElem?_set_ne (fun e => hnej e.symm), ← List.getD_eq_getElem?_getD]
    show phiM5 m a p w1.heap.size z zz v s.l i' ((xs.set j v').getD i' undef) u2
    rw [hg']
    exact phiM5_mono m a p w1.heap.size z zz v s.l i' j _ u1 u2 hp hRj (fun e => hnej e)
  · intro j hj xs w3 hxs hR hpre
    obtain ⟨x0, x1, x2, x3, x4, x5, x6, x7, x8, x9, x10, x11, x12, x13, rfl⟩ := list14m xs hxs
    have hc3 : w3.cell? ⟨m, 1, none⟩ = some v := (hR.blk (Hid.out HSELF) (Hid.out HNE)).cell rfl
    have hnew3 : some w3.heap.size ≠ v.ownBlock := fun e => absurd ((Hid.out HOV).lt _ e.symm).2 (Nat.not_lt.2 hR.grown.size)
    rcases (show j = 0 ∨ j = 1 ∨ j = 2 ∨ j = 3 ∨ j = 4 ∨ j = 5 ∨ j = 6 ∨ j = 7 ∨ j = 8 ∨ j = 9 ∨ j = 10 ∨ j = 11 ∨ j = 12 ∨ j = 13 by omega) with rfl | rfl | rfl | rfl | rfl | rfl | rfl | rfl | rfl | rfl | rfl | rfl | rfl | rfl
    · exact wpOp_run (.pointer (some ⟨m, 0, none⟩)) rfl (by kernel_rfl) (exec_move rfl (by kernel_rfl) w3) ⟨_, by kernel_rfl, rfl, below5_if (by decide) (Below.refl _ _)⟩
    · exact wpOp_run (.pointer (some ⟨m, 0, none⟩)) rfl (by kernel_rfl) (exec_move rfl (by kernel_rfl) w3) ⟨_, by kernel_rfl, rfl, below5_if (by decide) (Below.refl _ _)⟩
    · have e1 : x1 = .pointer (some ⟨m, 0, none⟩) := hpre 1 (by kernel_rfl)
      subst e1
      exact wpOp_run (.pointer (some ⟨m, 0, none⟩)) rfl (by kernel_rfl) (by kernel_rfl) ⟨_, by kernel_rfl, rfl, below5_if (by decide) (Below.refl _ _)⟩
    · have e2 : x2 = .pointer (some ⟨m, 0, none⟩) := hpre 2 (by kernel_rfl)
      subst e2
      exact wpOp_run (.pointer (some ⟨m, 1, none⟩)) rfl (by kernel_rfl) (by kernel_rfl) ⟨_, by kernel_rfl, rfl, below5_if (by decide) (Below.refl _ _)⟩
    · have e3 : x3 = .pointer (some ⟨m, 1, none⟩) := hpre 3 (by kernel_rfl)
      subst e3
      exact wpOp_run (v) rfl (by kernel_rfl) (exec_load 94 rfl (by kernel_rfl) w3 (load95 hc3)) ⟨_, by kernel_rfl, rfl, below5_if (by decide) (Below.refl _ _)⟩
    · exact wpOp_run (.int .u32 (a : Int)) rfl (by kernel_rfl) (exec_move rfl (by kernel_rfl) w3) ⟨_, by kernel_rfl, rfl, below5_if (by decide) (Below.refl _ _)⟩
    · have e5 : x5 = .int .u32 (a : Int) := hpre 5 (by kernel_rfl)
      subst e5
      refine wpOp_callR (R := fun u w4 => u = .int .u32 (p : Int) ∧ Below w3.heap.size w3 w4) 62 #[.int .u32 (a : Int)] rfl (by kernel_rfl) (by kernel_rfl) ((Hid.out C60 w3).mono fun e w4 ⟨he, hb⟩ => ⟨_, he, rfl, by rw [hb]; exact Below.refl _ _⟩) ?_
      rintro u w4 ⟨hu, hb4⟩
      exact ⟨_, by kernel_rfl, hu, below5_if (by decide) hb4⟩
    · exact wpOp_run (.int .i64 z) rfl (by kernel_rfl) (exec_move rfl (by kernel_rfl) w3) ⟨_, by kernel_rfl, rfl, below5_if (by decide) (Below.refl _ _)⟩
    · have e7 : x7 = .int .i64 z := hpre 7 (by kernel_rfl)
      subst e7
      exact wpOp_run (.int .i64 (bits .and .i64 z 7)) rfl (by kernel_rfl) (exec_and7 rfl ⟨by kernel_rfl, by kernel_rfl⟩ w3) ⟨_, by kernel_rfl, Hid.out HZZ, below5_if (by decide) (Below.refl _ _)⟩
    · have e6 : x6 = .int .u32 (p : Int) := hpre 6 (by kernel_rfl)
      subst e6
      have e8 : x8 = .int .i64 zz := hpre 8 (by kernel_rfl)
      subst e8
      exact wpOp_run (.agg (one5 (page5 p zz)).toArray) rfl (by kernel_rfl) (exec_build 116 rfl (by kernel_rfl) w3 (build100 p zz w3)) ⟨_, by kernel_rfl, rfl, below5_if (by decide) (Below.refl _ _)⟩
    · have e9 : x9 = .agg (one5 (page5 p zz)).toArray := hpre 9 (by kernel_rfl)
      subst e9
      exact wpOp_run (.slice (some ⟨w3.heap.size, 0, none⟩) 1 1) rfl (by kernel_rfl) (exec_slice100 rfl (by kernel_rfl) w3) ⟨_, by kernel_rfl, ⟨w3.heap.size, rfl, hnew3, Blk.new w3 _ 116⟩, below5_if (by decide) (below_new w3 _)⟩
    · have f10 : ∃ q, x10 = .slice (some ⟨q, 0, none⟩) 1 1 ∧ some q ≠ v.ownBlock ∧ Blk w3 q (one5 (page5 p zz)).toArray 116 := hpre 10 (by kernel_rfl)
      obtain ⟨q10, e10, hne10, hq10⟩ := f10
      subst e10
      have e4 : x4 = v := hpre 4 (by kernel_rfl)
      subst e4
      obtain ⟨v5, w5, hrun, ho5, hrm, hloc⟩ := run_more5 (ty := 94) (hR.keep _ (Hid.out HFIT) (Hid.out HOV)) (Hid.out HFIT) (Hid.out HF) hq10 (Hid.out HL)
      exact wpOp_run v5 rfl (by kernel_rfl) (exec_app95 rfl (by kernel_rfl) (by kernel_rfl) hrun) ⟨_, by kernel_rfl, ⟨ho5, hloc.imp id fun e => ⟨_, hR.grown.size, e⟩⟩, hrm⟩
    · have e0 : x0 = .pointer (some ⟨m, 0, none⟩) := hpre 0 (by kernel_rfl)
      subst e0
      exact wpOp_run (.pointer (some ⟨m, 0, none⟩)) rfl (by kernel_rfl) (by kernel_rfl) ⟨_, by kernel_rfl, rfl, below5_if (by decide) (Below.refl _ _)⟩
    · have e12 : x12 = .pointer (some ⟨m, 0, none⟩) := hpre 12 (by kernel_rfl)
      subst e12
      exact wpOp_run (.pointer (some ⟨m, 1, none⟩)) rfl (by kernel_rfl) (by kernel_rfl) ⟨_, by kernel_rfl, rfl, below5_if (by decide) (Below.refl _ _)⟩
  · intro xs w3 hxs hR hall
    obtain ⟨x0, x1, x2, x3, x4, x5, x6, x7, x8, x9, x10, x11, x12, x13, rfl⟩ := list14m xs hxs
    have e0 : x0 = .pointer (some ⟨m, 0, none⟩) := hall 0 (by omega)
    subst e0
    have e1 : x1 = .pointer (some ⟨m, 0, none⟩) := hall 1 (by omega)
    subst e1
    have e2 : x2 = .pointer (some ⟨m, 0, none⟩) := hall 2 (by omega)
    subst e2
    have e3 : x3 = .pointer (some ⟨m, 1, none⟩) := hall 3 (by omega)
    subst e3
    have e5 : x5 = .int .u32 (a : Int) := hall 5 (by omega)
    subst e5
    have e6 : x6 = .int .u32 (p : Int) := hall 6 (by omega)
    subst e6
    have e7 : x7 = .int .i64 z := hall 7 (by omega)
    subst e7
    have e8 : x8 = .int .i64 zz := hall 8 (by omega)
    subst e8
    have e9 : x9 = .agg (one5 (page5 p zz)).toArray := hall 9 (by omega)
    subst e9
    have e12 : x12 = .pointer (some ⟨m, 0, none⟩) := hall 12 (by omega)
    subst e12
    have e13 : x13 = .pointer (some ⟨m, 1, none⟩) := hall 13 (by omega)
    subst e13
    have f10 : ∃ q, x10 = .slice (some ⟨q, 0, none⟩) 1 1 ∧ some q ≠ v.ownBlock ∧ Blk w3 q (one5 (page5 p zz)).toArray 116 := hall 10 (by omega)
    obtain ⟨q10, e10, hne10, hq10⟩ := f10
    subst e10
    have e4 : x4 = v := hall 4 (by omega)
    subst e4
    have hout : Out5 w3 x11 (s.l ++ [page5 p zz]) ∧ (x11.ownBlock = x4.ownBlock ∨ ∃ q, w1.heap.size ≤ q ∧ x11.ownBlock = some q) := hall 11 (by omega)
    have hmore := (Hid.out HM1).more (Hid.out HF) (Hid.out HLL) hout.1 (by rw [Hid.out HVV]; exact hR.grown) (by rw [Hid.out HVV]; exact hout.2)
    rw [Hid.out HMM] at hmore
    have hself3 : Blk w3 m #[.int .i64 (s.most : Int), x4, s.vT] 96 := hR.blk (Hid.out HSELF) (Hid.out HNE)
    have hc3 : w3.cell? ⟨m, 1, none⟩ = some x4 := hself3.cell rfl
    have hz3 : w3.frozen? ⟨m, 1, none⟩ = false := frozen_of_row _ _ _ _ _ hself3
    obtain ⟨oa, oc, hx11⟩ : ∃ oa oc, x11 = .slice oa (s.l.length + 1) oc := by
      rcases hout.1.2 with ⟨e, hz⟩ | ⟨g, cap, cur, e, _⟩
      · simp at hz
      · rw [List.length_append] at e
        exact ⟨_, _, e⟩
    obtain ⟨n1, hn1⟩ : ∃ n1, s.l.length + 1 = n1 := ⟨_, rfl⟩
    rw [hn1] at hx11
    subst hx11
    have HMO := hidden hmore
    have hn2 : (n1 : Int) - 1 = ((s.l.length : Nat) : Int) := by omega
    have HN1 := hidden hn1
    clear hmore hout hself3 hq10 hR hn1 hall hxs
    simp only [slotsOn, putAll, List.set_cons_succ, List.set_cons_zero, List.drop_succ_cons, List.drop_zero]
    have hlen := Hid.out HLL
    have HDONE : Hid (∀ (wr : World) (st : S5) (i r : Nat), i ≤ s.l.length → Step5 (w3.setCell ⟨m, 1, none⟩ (.slice oa n1 oc)) { s with m := m, l := s.l ++ [page5 p zz], vP := .slice oa n1 oc } wr st → st.m = m → st.most = s.most → st.ts = s.ts → st.l = s.l.take i ++ page5 p zz :: s.l.drop i → (∀ k, i = k + 1 → ¬ p < (s.l.getD k nop5).at_) → (∀ j, i ≤ j → j < s.l.length → p < (s.l.getD j nop5).at_) → ∃ s', Step5 w s (wr.drewN r) s' ∧ s'.m = s.m ∧ s'.most = s.most ∧ s'.ts = s.ts ∧ ∃ i, i ≤ s.l.length ∧ s'.l = s.l.take i ++ page5 p zz :: s.l.drop i ∧ (∀ k, i = k + 1 → ¬ p < (s.l.getD k nop5).at_) ∧ ∀ j, i ≤ j → j < s.l.length → p < (s.l.getD j nop5).at_) := by
      intro wr st i r hi hst h1 h2 h3 h4 h5 h6
      have h7 := ((Hid.out HST1).trans (Hid.out HMO)).trans hst
      exact ⟨st, ⟨h7.mem.drewN r, h7.keep.drewN r, h7.grow⟩, by rw [h1, Hid.out HMM], h2, h3, i, hi, h4, h5, h6⟩
    go_wp2
    go_loopw [8] (fun x8 wr => ∃ (i : Nat) (st : S5), i ≤ s.l.length ∧ x8 = .int .i64 (i : Int) ∧ Step5 (w3.setCell ⟨m, 1, none⟩ (.slice oa n1 oc)) { s with m := m, l := s.l ++ [page5 p zz], vP := .slice oa n1 oc } wr st ∧ st.m = m ∧ st.vP = .slice oa n1 oc ∧ st.most = s.most ∧ st.ts = s.ts ∧ st.l = s.l.take i ++ page5 p zz :: s.l.drop i ∧ ∀ j, i ≤ j → j < s.l.length → p < (s.l.getD j nop5).at_) (fun x8 _ => (intOf x8).toNat)
    case atStart => exact ⟨s.l.length, _, Nat.le_refl _, by first | rfl | (congr 1; unfold wrap64; omega), Step5.refl (Hid.out HMO).mem, rfl, rfl, rfl, rfl, by simp, fun j h1 h2 => by omega⟩
    case round =>
      obtain ⟨i, st, hi, rfl, hst, hsm, hsv, hsmost, hsts, hsl, hsup⟩ := hrel
      have hM := hst.mem
      have hPr : wr.cell? ⟨m, 1, none⟩ = some (.slice oa n1 oc) := by
        have := hM.cellP
        rw [hsm, hsv] at this
        exact this
      have hsln : st.l.length = n1 := by
        rw [hsl, ← Hid.out HN1]
        simp
        omega
      have HST := hidden hst
      by_cases hi0 : 0 < i
      · obtain ⟨k, rfl⟩ : ∃ k, i = k + 1 := ⟨i - 1, by omega⟩
        have hn1 := Hid.out HN1
        obtain ⟨g, off, cap', ho, hv', hltg, hth, ⟨cur, hbg⟩, hc⟩ := hM.row (k := k) (by omega)
        have hvr := hv'
        rw [hsv, hsln] at hv'
        simp only [Value.slice.injEq, true_and] at hv'
        obtain ⟨rfl, rfl⟩ := hv'
        have gk : st.l.getD k nop5 = s.l.getD k nop5 := by
          rw [hsl, List.getD_eq_getElem?_getD, List.getElem?_append_left (by simp; omega), List.getElem?_take_of_lt (by omega), ← List.getD_eq_getElem?_getD]
        have gk1 : st.l.getD (k + 1) nop5 = page5 p zz := by
          have e : (s.l.take (k + 1)).length = k + 1 := by simp; omega
          rw [hsl, List.getD_eq_getElem?_getD, List.getElem?_append_right (by omega), e, Nat.sub_self]
          rfl
        have ck : wr.cell? ⟨g, off + k * 259, none⟩ = some (.int .u32 ((s.l.getD k nop5).at_ : Int)) := by
          have := hc k 0 (.int .u32 ((s.l.getD k nop5).at_ : Int)) (by omega) (by omega) (by rw [gk]; rfl)
          exact this
        have ck1 : wr.cell? ⟨g, off + (k + 1) * 259, none⟩ = some (.int .u32 (p : Int)) := by
          have := hc (k + 1) 0 (.int .u32 (p : Int)) (by omega) (by omega) (by rw [gk1]; rfl)
          exact this
        have hkn : k < n1 := by omega
        have hkn1 : k + 1 < n1 := by omega
        obtain ⟨aq, haq⟩ : ∃ aq, (s.l.getD k nop5).at_ = aq := ⟨_, rfl⟩
        rw [haq] at ck
        have HAQ := hidden haq
        have HSL := hidden hsl
        have HSUP := hidden hsup
        have HC := hidden hc
        have HTH := hidden hth
        have HVR := hidden hvr
        have HMG : Hid (¬ m = g) := by rw [← hsm]; exact blk_ne hM.self hbg (by decide)
        have HGL : Hid (∀ u, M5 u st → g < u.heap.size) := fun u hu => by
          obtain ⟨c, hc⟩ := hu.blkP (g := g) (by rw [hvr]; rfl)
          exact hc.lt
        have HO := hidden ho
        have HGK := hidden gk
        have HGK1 := hidden gk1
        by_cases hlt2 : p < aq
        · have hd : decide ((p : Int) < (aq : Int)) = true := decide_eq_true (by omega)
          have hd2 : (p : Int) < (aq : Int) := by omega
          clear hst hM hsl hsup hc hth hvr ho gk gk1 haq hn1 hbg
          go_wp2
          go_quiet (fail)
          go_wp2
          generalize hwq : wr.drewN _ = wq
          obtain ⟨px, hpx⟩ : ∃ px, s.l.getD k nop5 = px := ⟨_, rfl⟩
          have HFX : Hid (Fit5 px) := by rw [← hpx, ← Hid.out HGK]; exact (Hid.out HST).mem.fitAt (by omega)
          have hMq : M5 wq st := by rw [← hwq]; exact (Hid.out HST).mem.drewN _
          have hcq : ∀ j i v, j < st.l.length → i < 259 → (one5 (st.l.getD j nop5))[i]? = some v → wq.cell? ⟨g, off + j * 259 + i, none⟩ = some v := by rw [← hwq]; exact Hid.out HC
          have hthq : ∀ j, wq.frozen? ⟨g, j, none⟩ = false := by rw [← hwq]; exact Hid.out HTH
          have HSTQ := hidden ((Hid.out HST).later (w2 := wq) (by rw [← hwq]; exact below_drewN (Below.refl _ _) _))
          clear hwq
          refine wp_region_two later_bel (later_keep g) (fun u v h => Keep.of_below h) 27 (fun j u x => if j = 27 then Keep (· = g) u x else Below u.heap.size u x) (fun j u v hj h => by rw [if_neg hj] at h; exact h) (fun u v h => by rw [if_pos rfl] at h; exact h) 29 [86, 87, 88, 89, 90, 91, 92, 93, 94, 95, 96, 97, 98, 99, 100, 101, 102, 103, 104, 105, 106, 107, 108, 109, 110, 111, 112, 1000, 113] (fun i' xs' w' => phiSw m g off n1 oc k px (page5 p zz) wq st { st with l := st.l.set (k + 1) px } i' (xs'.getD i' undef) w') (by kernel_rfl) (by kernel_rfl) rfl ?_ ?_ ?_
          · intro i' j v' xs u1 u2 hwt hnej hp hRj
            have hg' : (xs.set j v').getD i' undef = xs.getD i' undef := by rw [List.getD_eq_getElem?_getD, List.getElem?_set_ne (fun e => hnej e.symm), ← List.getD_eq_getElem?_getD]
            exact phiSw_mono _ _ _ _ _ _ _ _ _ _ _ i' j _ _ u1 u2 hp hRj (fun e => hnej e) (fun _ => hg'.symm)
          · intro j hj xs w5 hxs hR hR0 hpre
            obtain ⟨x0, x1, x2, x3, x4, x5, x6, x7, x8, x9, x10, x11, x12, x13, x14, x15, x16, x17, x18, x19, x20, x21, x22, x23, x24, x25, x26, x27, x28, rfl⟩ := list29 xs hxs
            have hk5 : k < 100000 := by omega
            have hc5 : w5.cell? ⟨m, 1, none⟩ = some (.slice (some ⟨g, off, none⟩) n1 oc) := by
              have h1 := hMq.self
              rw [hsm, hsv] at h1
              exact (show Blk w5 m _ 96 from (hR.block m h1.lt (Hid.out HMG)).trans h1).cell rfl
            have hrk : Below wq.heap.size wq w5 → w5.rangeAt g (off + k * 259) (one5 px) := fun hb i v hv => (hb.cell (p := ⟨g, off + k * 259 + i, none⟩) (Hid.out HGL wq hMq)).trans (hcq k i v (by omega) (by have := (List.getElem?_eq_some_iff.1 hv).1; rw [one5_len (Hid.out HFX)] at this; exact this) (by rw [Hid.out HGK, hpx]; exact hv))
            have hrk1 : Below wq.heap.size wq w5 → w5.rangeAt g (off + (k + 1) * 259) (one5 (page5 p zz)) := fun hb i v hv => (hb.cell (p := ⟨g, off + (k + 1) * 259 + i, none⟩) (Hid.out HGL wq hMq)).trans (hcq (k + 1) i v (by omega) (by have := (List.getElem?_eq_some_iff.1 hv).1; rw [one5_len (Hid.out HF)] at this; exact this) (by rw [Hid.out HGK1]; exact hv))
            have hput5 : Below wq.heap.size wq w5 → Step5 wq st (w5.setCells g (off + (k + 1) * 259) (one5 px)) { st with l := st.l.set (k + 1) px } := fun hb => by
              have h1 := (Step5.refl hMq).later hb
              exact h1.trans (h1.mem.put (by omega) (Hid.out HFX) (Hid.out HVR) (Hid.out HO))
            have htr1 : Below wq.heap.size wq w5 → w5.there g (off + (k + 1) * 259) 259 := fun hb => ((Step5.refl hMq).later hb).mem.there (by omega) (Hid.out HVR)
            rcases (show j = 0 ∨ j = 1 ∨ j = 2 ∨ j = 3 ∨ j = 4 ∨ j = 5 ∨ j = 6 ∨ j = 7 ∨ j = 8 ∨ j = 9 ∨ j = 10 ∨ j = 11 ∨ j = 12 ∨ j = 13 ∨ j = 14 ∨ j = 15 ∨ j = 16 ∨ j = 17 ∨ j = 18 ∨ j = 19 ∨ j = 20 ∨ j = 21 ∨ j = 22 ∨ j = 23 ∨ j = 24 ∨ j = 25 ∨ j = 26 ∨ j = 27 ∨ j = 28 by omega) with rfl | rfl | rfl | rfl | rfl | rfl | rfl | rfl | rfl | rfl | rfl | rfl | rfl | rfl | rfl | rfl | rfl | rfl | rfl | rfl | rfl | rfl | rfl | rfl | rfl | rfl | rfl | rfl | rfl
            · exact wpOp_run (.pointer (some ⟨m, 0, none⟩)) rfl (by kernel_rfl) (exec_move rfl (by kernel_rfl) w5) ⟨_, by kernel_rfl, rfl, bel_two (by decide) (Below.refl _ _)⟩
            · have e0 : x0 = .pointer (some ⟨m, 0, none⟩) := hpre 0 (by kernel_rfl)
              subst e0
              exact wpOp_run (.pointer (some ⟨m, 0, none⟩)) rfl (by kernel_rfl) (by kernel_rfl) ⟨_, by kernel_rfl, rfl, bel_two (by decide) (Below.refl _ _)⟩
            · have e1 : x1 = .pointer (some ⟨m, 0, none⟩) := hpre 1 (by kernel_rfl)
              subst e1
              exact wpOp_run (.pointer (some ⟨m, 1, none⟩)) rfl (by kernel_rfl) (by kernel_rfl) ⟨_, by kernel_rfl, rfl, bel_two (by decide) (Below.refl _ _)⟩
            · have e2 : x2 = .pointer (some ⟨m, 1, none⟩) := hpre 2 (by kernel_rfl)
              subst e2
              exact wpOp_run (.slice (some ⟨g, off, none⟩) n1 oc) rfl (by kernel_rfl) (exec_load 94 rfl (by kernel_rfl) w5 (load95 hc5)) ⟨_, by kernel_rfl, rfl, bel_two (by decide) (Below.refl _ _)⟩
            · exact wpOp_run (.int .i64 ((k + 1 : Nat) : Int)) rfl (by kernel_rfl) (exec_move rfl (by kernel_rfl) w5) ⟨_, by kernel_rfl, rfl, bel_two (by decide) (Below.refl _ _)⟩
            · exact wpOp_run (.pointer (some ⟨m, 0, none⟩)) rfl (by kernel_rfl) (exec_move rfl (by kernel_rfl) w5) ⟨_, by kernel_rfl, rfl, bel_two (by decide) (Below.refl _ _)⟩
            · have e5 : x5 = .pointer (some ⟨m, 0, none⟩) := hpre 5 (by kernel_rfl)
              subst e5
              exact wpOp_run (.pointer (some ⟨m, 0, none⟩)) rfl (by kernel_rfl) (by kernel_rfl) ⟨_, by kernel_rfl, rfl, bel_two (by decide) (Below.refl _ _)⟩
            · have e6 : x6 = .pointer (some ⟨m, 0, none⟩) := hpre 6 (by kernel_rfl)
              subst e6
              exact wpOp_run (.pointer (some ⟨m, 1, none⟩)) rfl (by kernel_rfl) (by kernel_rfl) ⟨_, by kernel_rfl, rfl, bel_two (by decide) (Below.refl _ _)⟩
            · have e7 : x7 = .pointer (some ⟨m, 1, none⟩) := hpre 7 (by kernel_rfl)
              subst e7
              exact wpOp_run (.slice (some ⟨g, off, none⟩) n1 oc) rfl (by kernel_rfl) (exec_load 94 rfl (by kernel_rfl) w5 (load95 hc5)) ⟨_, by kernel_rfl, rfl, bel_two (by decide) (Below.refl _ _)⟩
            · exact wpOp_run (.int .i64 ((k + 1 : Nat) : Int)) rfl (by kernel_rfl) (exec_move rfl (by kernel_rfl) w5) ⟨_, by kernel_rfl, rfl, bel_two (by decide) (Below.refl _ _)⟩
            · have e9 : x9 = .int .i64 ((k + 1 : Nat) : Int) := hpre 9 (by kernel_rfl)
              subst e9
              exact wpOp_run (.int .i64 (k : Int)) rfl (by kernel_rfl) (exec_less1 rfl ⟨by kernel_rfl, by kernel_rfl⟩ hk5 w5) ⟨_, by kernel_rfl, rfl, bel_two (by decide) (Below.refl _ _)⟩
            · exact wpOp_run (.pointer (some ⟨m, 0, none⟩)) rfl (by kernel_rfl) (exec_move rfl (by kernel_rfl) w5) ⟨_, by kernel_rfl, rfl, bel_two (by decide) (Below.refl _ _)⟩
            · have e11 : x11 = .pointer (some ⟨m, 0, none⟩) := hpre 11 (by kernel_rfl)
              subst e11
              exact wpOp_run (.pointer (some ⟨m, 0, none⟩)) rfl (by kernel_rfl) (by kernel_rfl) ⟨_, by kernel_rfl, rfl, bel_two (by decide) (Below.refl _ _)⟩
            · have e12 : x12 = .pointer (some ⟨m, 0, none⟩) := hpre 12 (by kernel_rfl)
              subst e12
              exact wpOp_run (.pointer (some ⟨m, 1, none⟩)) rfl (by kernel_rfl) (by kernel_rfl) ⟨_, by kernel_rfl, rfl, bel_two (by decide) (Below.refl _ _)⟩
            · have e13 : x13 = .pointer (some ⟨m, 1, none⟩) := hpre 13 (by kernel_rfl)
              subst e13
              exact wpOp_run (.slice (some ⟨g, off, none⟩) n1 oc) rfl (by kernel_rfl) (exec_load 94 rfl (by kernel_rfl) w5 (load95 hc5)) ⟨_, by kernel_rfl, rfl, bel_two (by decide) (Below.refl _ _)⟩
            · exact wpOp_run (.int .i64 ((k + 1 : Nat) : Int)) rfl (by kernel_rfl) (exec_move rfl (by kernel_rfl) w5) ⟨_, by kernel_rfl, rfl, bel_two (by decide) (Below.refl _ _)⟩
            · have e15 : x15 = .int .i64 ((k + 1 : Nat) : Int) := hpre 15 (by kernel_rfl)
              subst e15
              exact wpOp_run (.int .i64 (k : Int)) rfl (by kernel_rfl) (exec_less1 rfl ⟨by kernel_rfl, by kernel_rfl⟩ hk5 w5) ⟨_, by kernel_rfl, rfl, bel_two (by decide) (Below.refl _ _)⟩
            · have e14 : x14 = .slice (some ⟨g, off, none⟩) n1 oc := hpre 14 (by kernel_rfl)
              subst e14
              have e16 : x16 = .int .i64 (k : Int) := hpre 16 (by kernel_rfl)
              subst e16
              exact wpOp_run (.pointer (some ⟨g, off + k * 259, none⟩)) rfl (by kernel_rfl) (exec_index100 (b := g) (off := off) (n := n1) (cap := oc) (k := k) rfl (by kernel_rfl) (by kernel_rfl) hkn w5) ⟨_, by kernel_rfl, rfl, bel_two (by decide) (Below.refl _ _)⟩
            · have e17 : x17 = .pointer (some ⟨g, off + k * 259, none⟩) := hpre 17 (by kernel_rfl)
              subst e17
              exact wpOp_run (.agg (one5 px).toArray) rfl (by kernel_rfl) (exec_load 116 rfl (by kernel_rfl) w5 (load100 (Hid.out HFX) (hrk (hR0 (.inr (by kernel_rfl)))))) ⟨_, by kernel_rfl, rfl, bel_two (by decide) (Below.refl _ _)⟩
            · exact wpOp_run (.pointer (some ⟨m, 0, none⟩)) rfl (by kernel_rfl) (exec_move rfl (by kernel_rfl) w5) ⟨_, by kernel_rfl, rfl, bel_two (by decide) (Below.refl _ _)⟩
            · have e19 : x19 = .pointer (some ⟨m, 0, none⟩) := hpre 19 (by kernel_rfl)
              subst e19
              exact wpOp_run (.pointer (some ⟨m, 0, none⟩)) rfl (by kernel_rfl) (by kernel_rfl) ⟨_, by kernel_rfl, rfl, bel_two (by decide) (Below.refl _ _)⟩
            · have e20 : x20 = .pointer (some ⟨m, 0, none⟩) := hpre 20 (by kernel_rfl)
              subst e20
              exact wpOp_run (.pointer (some ⟨m, 1, none⟩)) rfl (by kernel_rfl) (by kernel_rfl) ⟨_, by kernel_rfl, rfl, bel_two (by decide) (Below.refl _ _)⟩
            · have e21 : x21 = .pointer (some ⟨m, 1, none⟩) := hpre 21 (by kernel_rfl)
              subst e21
              exact wpOp_run (.slice (some ⟨g, off, none⟩) n1 oc) rfl (by kernel_rfl) (exec_load 94 rfl (by kernel_rfl) w5 (load95 hc5)) ⟨_, by kernel_rfl, rfl, bel_two (by decide) (Below.refl _ _)⟩
            · exact wpOp_run (.int .i64 ((k + 1 : Nat) : Int)) rfl (by kernel_rfl) (exec_move rfl (by kernel_rfl) w5) ⟨_, by kernel_rfl, rfl, bel_two (by decide) (Below.refl _ _)⟩
            · have e22 : x22 = .slice (some ⟨g, off, none⟩) n1 oc := hpre 22 (by kernel_rfl)
              subst e22
              have e23 : x23 = .int .i64 ((k + 1 : Nat) : Int) := hpre 23 (by kernel_rfl)
              subst e23
              exact wpOp_run (.pointer (some ⟨g, off + (k + 1) * 259, none⟩)) rfl (by kernel_rfl) (exec_index100 (b := g) (off := off) (n := n1) (cap := oc) (k := k + 1) rfl (by kernel_rfl) (by kernel_rfl) hkn1 w5) ⟨_, by kernel_rfl, rfl, bel_two (by decide) (Below.refl _ _)⟩
            · have e24 : x24 = .pointer (some ⟨g, off + (k + 1) * 259, none⟩) := hpre 24 (by kernel_rfl)
              subst e24
              exact wpOp_run (.agg (one5 (page5 p zz)).toArray) rfl (by kernel_rfl) (exec_load 116 rfl (by kernel_rfl) w5 (load100 (Hid.out HF) (hrk1 (hR0 (.inr (by kernel_rfl)))))) ⟨_, by kernel_rfl, rfl, bel_two (by decide) (Below.refl _ _)⟩
            · have e3 : x3 = .slice (some ⟨g, off, none⟩) n1 oc := hpre 3 (by kernel_rfl)
              subst e3
              have e4 : x4 = .int .i64 ((k + 1 : Nat) : Int) := hpre 4 (by kernel_rfl)
              subst e4
              exact wpOp_run (.pointer (some ⟨g, off + (k + 1) * 259, none⟩)) rfl (by kernel_rfl) (exec_index100 (b := g) (off := off) (n := n1) (cap := oc) (k := k + 1) rfl (by kernel_rfl) (by kernel_rfl) hkn1 w5) ⟨_, by kernel_rfl, rfl, bel_two (by decide) (Below.refl _ _)⟩
            · have e26 : x26 = .pointer (some ⟨g, off + (k + 1) * 259, none⟩) := hpre 26 (by kernel_rfl)
              subst e26
              have e18 : x18 = .agg (one5 px).toArray := hpre 18 (by kernel_rfl)
              subst e18
              refine wpOp_store100 (Hid.out HFX) rfl (by kernel_rfl) rfl rfl (by kernel_rfl) (by kernel_rfl) (htr1 (hR0 (.inl rfl))) ?_
              exact ⟨undef, by kernel_rfl, hput5 (hR0 (.inl rfl)), keep_setCells _ _ _ _⟩
            · have e8 : x8 = .slice (some ⟨g, off, none⟩) n1 oc := hpre 8 (by kernel_rfl)
              subst e8
              have e10 : x10 = .int .i64 (k : Int) := hpre 10 (by kernel_rfl)
              subst e10
              exact wpOp_run (.pointer (some ⟨g, off + k * 259, none⟩)) rfl (by kernel_rfl) (exec_index100 (b := g) (off := off) (n := n1) (cap := oc) (k := k) rfl (by kernel_rfl) (by kernel_rfl) hkn w5) ⟨_, by kernel_rfl, rfl, bel_two (by decide) (Below.refl _ _)⟩
          · intro xs w5 hxs hR hall
            obtain ⟨x0, x1, x2, x3, x4, x5, x6, x7, x8, x9, x10, x11, x12, x13, x14, x15, x16, x17, x18, x19, x20, x21, x22, x23, x24, x25, x26, x27, x28, rfl⟩ := list29 xs hxs
            have e0 : x0 = .pointer (some ⟨m, 0, none⟩) := hall 0 (by omega)
            subst e0
            have e1 : x1 = .pointer (some ⟨m, 0, none⟩) := hall 1 (by omega)
            subst e1
            have e2 : x2 = .pointer (some ⟨m, 1, none⟩) := hall 2 (by omega)
            subst e2
            have e3 : x3 = .slice (some ⟨g, off, none⟩) n1 oc := hall 3 (by omega)
            subst e3
            have e4 : x4 = .int .i64 ((k + 1 : Nat) : Int) := hall 4 (by omega)
            subst e4
            have e5 : x5 = .pointer (some ⟨m, 0, none⟩) := hall 5 (by omega)
            subst e5
            have e6 : x6 = .pointer (some ⟨m, 0, none⟩) := hall 6 (by omega)
            subst e6
            have e7 : x7 = .pointer (some ⟨m, 1, none⟩) := hall 7 (by omega)
            subst e7
            have e8 : x8 = .slice (some ⟨g, off, none⟩) n1 oc := hall 8 (by omega)
            subst e8
            have e9 : x9 = .int .i64 ((k + 1 : Nat) : Int) := hall 9 (by omega)
            subst e9
            have e10 : x10 = .int .i64 (k : Int) := hall 10 (by omega)
            subst e10
            have e11 : x11 = .pointer (some ⟨m, 0, none⟩) := hall 11 (by omega)
            subst e11
            have e12 : x12 = .pointer (some ⟨m, 0, none⟩) := hall 12 (by omega)
            subst e12
            have e13 : x13 = .pointer (some ⟨m, 1, none⟩) := hall 13 (by omega)
            subst e13
            have e14 : x14 = .slice (some ⟨g, off, none⟩) n1 oc := hall 14 (by omega)
            subst e14
            have e15 : x15 = .int .i64 ((k + 1 : Nat) : Int) := hall 15 (by omega)
            subst e15
            have e16 : x16 = .int .i64 (k : Int) := hall 16 (by omega)
            subst e16
            have e17 : x17 = .pointer (some ⟨g, off + k * 259, none⟩) := hall 17 (by omega)
            subst e17
            have e18 : x18 = .agg (one5 px).toArray := hall 18 (by omega)
            subst e18
            have e19 : x19 = .pointer (some ⟨m, 0, none⟩) := hall 19 (by omega)
            subst e19
            have e20 : x20 = .pointer (some ⟨m, 0, none⟩) := hall 20 (by omega)
            subst e20
            have e21 : x21 = .pointer (some ⟨m, 1, none⟩) := hall 21 (by omega)
            subst e21
            have e22 : x22 = .slice (some ⟨g, off, none⟩) n1 oc := hall 22 (by omega)
            subst e22
            have e23 : x23 = .int .i64 ((k + 1 : Nat) : Int) := hall 23 (by omega)
            subst e23
            have e24 : x24 = .pointer (some ⟨g, off + (k + 1) * 259, none⟩) := hall 24 (by omega)
            subst e24
            have e25 : x25 = .agg (one5 (page5 p zz)).toArray := hall 25 (by omega)
            subst e25
            have e26 : x26 = .pointer (some ⟨g, off + (k + 1) * 259, none⟩) := hall 26 (by omega)
            subst e26
            have e28 : x28 = .pointer (some ⟨g, off + k * 259, none⟩) := hall 28 (by omega)
            subst e28
            have f27 : Step5 wq st w5 { st with l := st.l.set (k + 1) px } := hall 27 (by omega)
            have hkl1 : k < (st.l.set (k + 1) px).length := by rw [List.length_set]; omega
            have hv1 : st.vP = .slice (some ⟨g, off, none⟩) (st.l.set (k + 1) px).length oc := by rw [List.length_set]; exact Hid.out HVR
            have hth2 := f27.mem.there (k := k) hkl1 hv1
            have hput2 := f27.mem.put (k := k) (q := page5 p zz) hkl1 (Hid.out HF) hv1 (Hid.out HO)
            have hall2 := ((Hid.out HSTQ).trans f27).trans hput2
            have hcm : (w5.setCells g (off + k * 259) (one5 (page5 p zz))).cell? ⟨m, 1, none⟩ = some (.slice (some ⟨g, off, none⟩) n1 oc) := by
              have h1 := hput2.mem.cellP
              rw [← hsm, ← hsv]
              exact h1
            have HALL := hidden hall2
            have HTH2 := hidden hth2
            have hs2 : (one5 (page5 p zz)).toArray.size = 259 := by rw [List.size_toArray, one5_len (Hid.out HF)]
            have hl2 : (st.l.set (k + 1) px).set k (page5 p zz) = s.l.take k ++ page5 p zz :: s.l.drop k := by
              rw [Hid.out HSL, ← hpx]
              exact swap_list (by omega) _
            have HL2 := hidden hl2
            have hsup2 : ∀ j, k ≤ j → j < s.l.length → p < (s.l.getD j nop5).at_ := fun j h1 h2 => by
              by_cases hjk : j = k
              · subst hjk
                rw [Hid.out HAQ]
                exact hlt2
              · exact Hid.out HSUP j (by omega) h2
            have HSUP2 := hidden hsup2
            clear hall hR hxs f27 hkl1 hv1 hth2 hput2 hall2 hl2 hsup2 hcq hthq hMq
            simp only [slotsOn, putAll, List.set_cons_succ, List.set_cons_zero, List.drop_succ_cons, List.drop_zero]
            refine wpList_store_mid rfl 116 _ _ rfl g (off + k * 259) (one5 (page5 p zz)).toArray rfl rfl (by rw [hs2]; exact Hid.out HTH2) (by rw [hs2]; exact size100) (all_oneCell_toArray (one5_one _)) ?_
            go_wp2
            go_roundw
            case rel => first | exact ⟨k, by omega, (by first | rfl | (simp only [Value.int.injEq, true_and]; simp [wrap64]; done) | (congr 1; done) | (congr 1; unfold wrap64; omega)), { st with l := (st.l.set (k + 1) px).set k (page5 p zz) }, Hid.out HALL, hsm, hsv, hsmost, hsts, Hid.out HL2, Hid.out HSUP2⟩ | exact ⟨k, by omega, (by first | rfl | (simp only [Value.int.injEq, true_and]; simp [wrap64]; done) | (congr 1; done) | (congr 1; unfold wrap64; omega)), ⟨{ st with l := (st.l.set (k + 1) px).set k (page5 p zz) }, Hid.out HALL, hsm, hsv, hsmost, hsts, Hid.out HL2⟩, Hid.out HSUP2⟩
            case measure => first | (simp [intOf]; done) | (simp [intOf]; omega) | (simp [intOf, wrap64]; omega)
        · have hd : decide ((p : Int) < (aq : Int)) = false := decide_eq_false (by omega)
          have hd2 : ¬ (p : Int) < (aq : Int) := by omega
          have HE : Hid (∀ r, _) := fun r => Hid.out HDONE wr st (k + 1) r (by omega) hst hsm hsmost hsts hsl (fun k' e => by
            obtain rfl : k = k' := by omega
            rw [haq]
            exact hlt2) hsup
          clear hst hM hsl hsup HDONE hc hth hvr ho gk gk1 haq hn1 hbg
          go_wp2
          go_quiet (fail)
          go_wp2
          go_ret
          exact ⟨rfl, Hid.out HE _⟩
      · obtain rfl : i = 0 := by omega
        have HE : Hid (∀ r, _) := fun r => Hid.out HDONE wr st 0 r (by omega) hst hsm hsmost hsts hsl (by omega) hsup
        clear hst hM hsl hsup HDONE
        go_wp2
        go_quiet (fail)
        go_wp2
        go_ret
        exact ⟨rfl, Hid.out HE _⟩
end Go.Proofs.Ytodoenimlhldjaa
namespace Go.Proofs.Ytodoenimlhldjaa
open Go.ChangeShapes Go.WideShapes Go.ChangeAt Go.RowKit
set_option linter.unusedVariables false
theorem Own.later {w u v : World} {s : MS} (h : Own w u s) (hb : Below u.heap.size u v) : Own w v s := h.step (Step.later h.mem hb)
/-- A memory that was made behind another one. -/
theorem apart_new {w u v : World} {s t : MS} (hs : Own w u s) (ht : Own u v t) : Apart s t := fun b hb hbt => by
  have := hs.mem.lt hb
  have := ht.foot b hbt
  omega
theorem Own.wide {w u v : World} {t : MS} (h : Own u v t) (hb : Below w.heap.size w u) : Own w v t := ⟨h.mem, hb.trans (h.below.mono hb.size), fun b hf => Nat.le_trans hb.size (h.foot b hf)⟩
structure Two (w wr : World) (s t : MS) (ms mt : Nat) (f g : AM) (C : Nat) : Prop where
  a : Own w wr s
  b : Own w wr t
  ab : Apart s t
  ms : s.mb = ms
  mt : t.mb = mt
  f : s.abs = f
  g : t.abs = g
  c : s.c ≤ C
theorem Two.later {w u v : World} {s t : MS} {ms mt C : Nat} {f g : AM} (h : Two w u s t ms mt f g C) (hb : Below u.heap.size u v) : Two w v s t ms mt f g C := ⟨h.a.later hb, h.b.later hb, h.ab, h.ms, h.mt, h.f, h.g, h.c⟩
theorem Two.drew {w u v : World} {s t : MS} {ms mt C : Nat} {f g : AM} (h : Two w u s t ms mt f g C) (hd : ∃ n, v = u.drewN n) : Two w v s t ms mt f g C := by
  obtain ⟨n, rfl⟩ := hd
  exact h.later (below_drewN (Below.refl _ _) n)
theorem Two.poke {w u : World} {s t : MS} {ms mt C a : Nat} {f g : AM} (h : Two w u s t ms mt f g C) (v : UInt8) (ha : a < 4294967296) (hC : C < 1099511627776) : Calls Try.prog 28 #[.pointer (some ⟨ms, 0, none⟩), .int .u32 (a : Int), .int .u8 (v.toNat : Int)] u fun e w' =>
    e = .returned (.bool (f (pageOf a)).isSome) ∧ ∃ s', Two w w' s' t ms mt (apoke f a v) g (C + 1) := by
  have hc := h.c
  have h21 := poke_any u s a v h.a.mem ha (by omega)
  have e : decide (pageOf a ∈ s.ks) = (f (pageOf a)).isSome := by
    rw [← h.f]
    by_cases hk : pageOf a ∈ s.ks
    · rw [decide_eq_true hk, mem_abs.1 hk]
    · rw [decide_eq_false hk, abs_out hk]
      rfl
  rw [h.ms, e] at h21
  refine h21.mono ?_
  rintro e w' ⟨he, tv, st⟩
  have hap := st.apart h.b.mem h.ab
  have hkp : Own w w' t := ⟨hap.1, (h.a.step st).below, h.b.foot⟩
  have hc2 := pokeAt_c s a v tv
  exact ⟨he, _, h.a.step st, hkp, hap.2, by rw [pokeAt_mb]; exact h.ms, h.mt, by rw [abs_pokeAt, h.f], h.g, by omega⟩
theorem Two.peek {w u : World} {s t : MS} {ms mt C a : Nat} {f g : AM} (h : Two w u s t ms mt f g C) (ha : a < 4294967296) : Calls Try.prog 50 #[.pointer (some ⟨ms, 0, none⟩), .int .u32 (a : Int)] u fun e w' => e = .returned (.int .u8 ((getA f a).toNat : Int)) ∧ Two w w' s t ms mt f g C := by
  have := peek_any u s a h.a.mem ha
  rw [h.ms, get_getA, h.f] at this
  exact this.mono fun e w' ⟨he, hd⟩ => ⟨he, h.drew hd⟩
end Go.Proofs.Ytodoenimlhldjaa
