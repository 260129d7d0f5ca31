/- Chapter 5's own memory: two pages exchanged: what the region's slots hold. -/
import Derived.Test.YtodoenimlhldjaaQTwo
namespace Go.Proofs.Ytodoenimlhldjaa
open Go.ChangeShapes Go.WideShapes Go.ChangeAt Go.RowKit
set_option linter.unusedVariables false
theorem size100 : (Try.prog.info? 116).map (·.size) = some 259 := by kernel_rfl
theorem Step5.later {w w1 w2 : World} {s t : S5} (h : Step5 w s w1 t) (hb : Below w1.heap.size w1 w2) : Step5 w s w2 t := by
  have hl : ∀ b, foot5 t b → b < w1.heap.size := by
    rintro b (hb | hb | hb)
    · rw [hb]; exact h.mem.lt
    · obtain ⟨c, hc⟩ := h.mem.blkP hb; exact hc.lt
    · obtain ⟨c, hc⟩ := h.mem.blkT hb; exact hc.lt
  refine ⟨⟨h.mem.self.later hb, ownsRow_same h.mem.pages fun g hg => hb.block g (hl g (.inr (.inl hg))), ownsRow_same h.mem.touched fun g hg => hb.block g (hl g (.inr (.inr hg))), h.mem.fit, h.mem.few⟩, h.keep.trans (Keep.of_below (F := nought) hb) fun b _ hn => hn.elim, h.grow⟩
theorem later_bel : Later (fun u x : World => Below u.heap.size u x) := ⟨fun w => Below.refl _ w, fun _ _ _ h k => bthen h k, fun w => (Below.refl _ w).drew⟩
theorem later_keep (g : Nat) : Later (Keep (· = g)) := ⟨fun w => Keep.refl _ w, fun _ _ _ h k => h.trans k fun _ _ hb => hb, fun w => (Keep.refl _ w).drewN 1⟩
section
variable {ρ : Operand → Value} {o : Oper}
theorem exec_index100 {x y : Operand} {b off n cap k : Nat} (hop : o.op = .indexAddr 94 x y) (hx : ρ x = .slice (some ⟨b, off, none⟩) n cap) (hy : ρ y = .int .i64 (k : Int)) (hk : k < n) (w : World) : (execOp ρ o).run Try.prog w = .ok (.value (.pointer (some ⟨b, off + k * 259, none⟩))) w := by
  have hs := size100
  cases hq : Try.prog.info? 116 with
  | none => simp [hq] at hs
  | some i =>
    have hs2 : i.size = 259 := by simpa [hq] using hs
    unfold execOp
    rw [hop]
    simp [hx, hy, Instr.indexAt, run_underlying Try.underlying94, sizeOf, typeInfo, hq, hs2, hk, Addr.add_lit, go_sem]
theorem exec_less1 {x : Operand} {k : Nat} (hop : o.op = .binOp .sub 3 x (.const (.int .i64 1)) 3) (hx : ρ x = .int .i64 ((k + 1 : Nat) : Int) ∧ ρ (.const (.int .i64 1)) = .int .i64 1) (hk : k < 100000) (w : World) : (execOp ρ o).run Try.prog w = .ok (.value (.int .i64 (k : Int))) w := by
  have e : IntKind.i64.wrap (((k + 1 : Nat) : Int) - 1) = (k : Int) := by rw [IntKind.wrap_i64]; omega
  unfold execOp
  rw [hop]
  simp only [hx.1, hx.2]
  simp [go_sem]
  rw [IntKind.wrap_i64]
  omega
end
theorem load100 {w : World} {b o : Nat} {p : P5} (hp : Fit5 p) (h : w.rangeAt b o (one5 p)) : (loadVar 116 ⟨b, o, none⟩).run Try.prog w = .ok (.agg (one5 p).toArray) w :=
  run_loadVar_mid w b o 116 (one5 p) _ h Try.underlying116 rfl (by rw [one5_len hp]; exact size100)
theorem wpOp_store100 {ops : Array Oper} {Q : Exit → Act → World → Prop} {a : Act} {w : World} {K : Act → World → Prop} {i b off : Nat} {p : P5} {o : Oper} {x y : Operand} (hp : Fit5 p) (hi : ops[i]? = some o) (hw : Region.wanted o (yielded ops a.tmps) = true) (ho : o.op = .store 116 x y) (hd : o.dst = none) (hx : a.eval x = .pointer (some ⟨b, off, none⟩)) (hy : a.eval y = .agg (one5 p).toArray) (ht : w.there b off 259) (h : K a (w.setCells b off (one5 p))) : Runs Try.prog ops Q i K a w := by
  have hs : (one5 p).toArray.size = 259 := by rw [List.size_toArray, one5_len hp]
  constructor
  unfold wpOp
  simp only [hi, hw, if_true]
  left
  exact wp_store_mid 116 x y ho b off (one5 p).toArray hx hy (by rw [hs]; exact ht) (by rw [hs]; exact size100) (all_oneCell_toArray (one5_one p)) (by rw [hd]; exact h)
theorem M5.there {w : World} {s : S5} (h : M5 w s) {k g off cap : Nat} (hk : k < s.l.length) (hv : s.vP = .slice (some ⟨g, off, none⟩) s.l.length cap) : w.there g (off + k * 259) 259 := by
  obtain ⟨g2, off2, cap2, h0, hv2, _, hth, _, hc⟩ := h.row hk
  rw [hv] at hv2
  simp only [Value.slice.injEq, Option.some.injEq, Addr.mk.injEq, and_true, true_and] at hv2
  obtain ⟨⟨rfl, rfl⟩, rfl⟩ := hv2
  intro j hj
  refine ⟨?_, hth _⟩
  rw [hc k j _ hk hj (List.getElem?_eq_getElem (by rw [one5_len (h.fitAt hk)]; exact hj))]
  rfl
theorem swap_list {l : List P5} {k : Nat} (h : k < l.length) (pg : P5) : ((l.take (k + 1) ++ pg :: l.drop (k + 1)).set (k + 1) (l.getD k nop5)).set k pg = l.take k ++ pg :: l.drop k := by
  have eg : l.getD k nop5 = l[k] := by rw [List.getD_eq_getElem?_getD, List.getElem?_eq_getElem h]; rfl
  have e1 : l.take (k + 1) = l.take k ++ [l[k]] := by rw [List.take_add_one, List.getElem?_eq_getElem h]; rfl
  have e2 : l.drop k = l[k] :: l.drop (k + 1) := List.drop_eq_getElem_cons h
  have e3 : (l.take k).length = k := by simp; omega
  rw [eg, e1, e2, List.append_assoc, List.set_append_right _ _ (by omega), e3, List.set_append_right _ _ (by omega), e3, Nat.sub_self, show k + 1 - k = 1 by omega]
  rfl
theorem bel_two {j g : Nat} {u x : World} (hj : j ≠ 27) (h : Below u.heap.size u x) : if j = 27 then Keep (· = g) u x else Below u.heap.size u x := by rw [if_neg hj]; exact h
/-- What the slots of the region hold, whatever the order. -/
def phiSw (m g off n1 cap k : Nat) (px py : P5) (wr : World) (st st1 : S5) : Nat → Value → World → Prop
  | 0, x, _ => x = .pointer (some ⟨m, 0, none⟩)
  | 1, x, _ => x = .pointer (some ⟨m, 0, none⟩)
  | 2, x, _ => x = .pointer (some ⟨m, 1, none⟩)
  | 3, x, _ => x = .slice (some ⟨g, off, none⟩) n1 cap
  | 4, x, _ => x = .int .i64 ((k + 1 : Nat) : Int)
  | 5, x, _ => x = .pointer (some ⟨m, 0, none⟩)
  | 6, x, _ => x = .pointer (some ⟨m, 0, none⟩)
  | 7, x, _ => x = .pointer (some ⟨m, 1, none⟩)
  | 8, x, _ => x = .slice (some ⟨g, off, none⟩) n1 cap
  | 9, x, _ => x = .int .i64 ((k + 1 : Nat) : Int)
  | 10, x, _ => x = .int .i64 (k : Int)
  | 11, x, _ => x = .pointer (some ⟨m, 0, none⟩)
  | 12, x, _ => x = .pointer (some ⟨m, 0, none⟩)
  | 13, x, _ => x = .pointer (some ⟨m, 1, none⟩)
  | 14, x, _ => x = .slice (some ⟨g, off, none⟩) n1 cap
  | 15, x, _ => x = .int .i64 ((k + 1 : Nat) : Int)
  | 16, x, _ => x = .int .i64 (k : Int)
  | 17, x, _ => x = .pointer (some ⟨g, off + k * 259, none⟩)
  | 18, x, _ => x = .agg (one5 px).toArray
  | 19, x, _ => x = .pointer (some ⟨m, 0, none⟩)
  | 20, x, _ => x = .pointer (some ⟨m, 0, none⟩)
  | 21, x, _ => x = .pointer (some ⟨m, 1, none⟩)
  | 22, x, _ => x = .slice (some ⟨g, off, none⟩) n1 cap
  | 23, x, _ => x = .int .i64 ((k + 1 : Nat) : Int)
  | 24, x, _ => x = .pointer (some ⟨g, off + (k + 1) * 259, none⟩)
  | 25, x, _ => x = .agg (one5 py).toArray
  | 26, x, _ => x = .pointer (some ⟨g, off + (k + 1) * 259, none⟩)
  | 27, _, w => Step5 wr st w st1
  | 28, x, _ => x = .pointer (some ⟨g, off + k * 259, none⟩)
  | _ + 29, _, _ => True
theorem phiSw_mono (m g off n1 cap k : Nat) (px py : P5) (wr : World) (st st1 : S5) : ∀ i j x y w w', phiSw m g off n1 cap k px py wr st st1 i x w → (if j = 27 then Keep (· = g) w w' else Below w.heap.size w w') → i ≠ j → (i ≠ 27 → x = y) → phiSw m g off n1 cap k px py wr st st1 i y w'
  | 0, _, _, _, _, _, h, _, _, e => (e (by decide)) ▸ h
  | 1, _, _, _, _, _, h, _, _, e => (e (by decide)) ▸ h
  | 2, _, _, _, _, _, h, _, _, e => (e (by decide)) ▸ h
  | 3, _, _, _, _, _, h, _, _, e => (e (by decide)) ▸ h
  | 4, _, _, _, _, _, h, _, _, e => (e (by decide)) ▸ h
  | 5, _, _, _, _, _, h, _, _, e => (e (by decide)) ▸ h
  | 6, _, _, _, _, _, h, _, _, e => (e (by decide)) ▸ h
  | 7, _, _, _, _, _, h, _, _, e => (e (by decide)) ▸ h
  | 8, _, _, _, _, _, h, _, _, e => (e (by decide)) ▸ h
  | 9, _, _, _, _, _, h, _, _, e => (e (by decide)) ▸ h
  | 10, _, _, _, _, _, h, _, _, e => (e (by decide)) ▸ h
  | 11, _, _, _, _, _, h, _, _, e => (e (by decide)) ▸ h
  | 12, _, _, _, _, _, h, _, _, e => (e (by decide)) ▸ h
  | 13, _, _, _, _, _, h, _, _, e => (e (by decide)) ▸ h
  | 14, _, _, _, _, _, h, _, _, e => (e (by decide)) ▸ h
  | 15, _, _, _, _, _, h, _, _, e => (e (by decide)) ▸ h
  | 16, _, _, _, _, _, h, _, _, e => (e (by decide)) ▸ h
  | 17, _, _, _, _, _, h, _, _, e => (e (by decide)) ▸ h
  | 18, _, _, _, _, _, h, _, _, e => (e (by decide)) ▸ h
  | 19, _, _, _, _, _, h, _, _, e => (e (by decide)) ▸ h
  | 20, _, _, _, _, _, h, _, _, e => (e (by decide)) ▸ h
  | 21, _, _, _, _, _, h, _, _, e => (e (by decide)) ▸ h
  | 22, _, _, _, _, _, h, _, _, e => (e (by decide)) ▸ h
  | 23, _, _, _, _, _, h, _, _, e => (e (by decide)) ▸ h
  | 24, _, _, _, _, _, h, _, _, e => (e (by decide)) ▸ h
  | 25, _, _, _, _, _, h, _, _, e => (e (by decide)) ▸ h
  | 26, _, _, _, _, _, h, _, _, e => (e (by decide)) ▸ h
  | 27, j, x, y, w, w', h, hr, hn, _ => by
    rw [if_neg (fun e => hn e.symm)] at hr
    exact Step5.later h hr
  | 28, _, _, _, _, _, h, _, _, e => (e (by decide)) ▸ h
  | _ + 29, _, _, _, _, _, _, _, _, _ => trivial
theorem list29 : ∀ xs : List Value, xs.length = 29 → ∃ x0 x1 x2 x3 x4 x5 x6 x7 x8 x9 x10 x11 x12 x13 x14 x15 x16 x17 x18 x19 x20 x21 x22 x23 x24 x25 x26 x27 x28, xs = [x0, x1, x2, x3, x4, x5, x6, x7, x8, x9, x10, x11, x12, x13, x14, x15, x16, x17, x18, x19, x20, x21, x22, x23, x24, x25, x26, x27, x28]
  | [x0, x1, x2, x3, x4, x5, x6, x7, x8, x9, x10, x11, x12, x13, x14, x15, x16, x17, x18, x19, x20, x21, x22, x23, x24, x25, x26, x27, x28], _ => ⟨_, _, _, _, _, _, _, _, _, _, _, _, _, _, _, _, _, _, _, _, _, _, _, _, _, _, _, _, _, rfl⟩
end Go.Proofs.Ytodoenimlhldjaa
