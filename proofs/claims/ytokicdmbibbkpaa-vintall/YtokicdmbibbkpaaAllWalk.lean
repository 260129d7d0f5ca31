/- VintAll, walked. -/
import Derived.Test.YtokicdmbibbkpaaGetTexts
import Derived.Test.YtokicdmbibbkpaaAwake
import Derived.Test.YtokicdmbibbkpaaInv
namespace Go.Proofs.Ytokicdmbibbkpaa
open Go.ChangeShapes Go.WideShapes Go.ChangeAt Go.RowKit
set_option linter.unusedVariables false
/-- Bytes copied into memory of the call's own, and a byte behind them. -/
theorem run_copy (w : World) (ao : Option Addr) (cap : Nat) (l : List UInt8) (hl : Lies w ao l) (hlen : l.length ≤ 140737488355328) :
    ∃ v w1, (Builtin.append_ #[22, 22] 22 #[.slice none 0 0, .slice ao l.length cap]).run Try.prog w = .ok v w1 ∧ w1.ownsRow w.heap.size 5 1 v l.length (cellsU l) ∧ Below w.heap.size w w1 := by
  obtain ⟨i0, hi, hz0, hz1, hz2⟩ := info_parts info5
  by_cases h0 : l = []
  · subst h0
    refine ⟨.slice none 0 0, w, ?_, World.ownsRow_nil _ _ _ _, Below.refl _ _⟩
    cases ao <;> simp [Builtin.append_, run_underlying Try.underlying22, sizeOf, typeInfo, hi, Builtin.lenOf, Builtin.firstCells, loadCells, loadCellsFrom]
  · obtain ⟨b, off, rfl, hc⟩ : ∃ b off, ao = some ⟨b, off, none⟩ ∧ ∀ j, j < l.length → w.cell? ⟨b, off + j, none⟩ = some (.int .u8 ((l.getD j 0).toNat : Int)) := by
      rcases hl with h | h
      · exact absurd h h0
      · exact h
    obtain ⟨v, w1, hr, hown, hgrow, _⟩ := run_append_own (P := Try.prog) w w.heap.size 22 22 5 i0 (.int .u8 0) 1 1 Try.underlying22 hi hz0 hz1 hz2 rfl (by decide) _ 0 [] (World.ownsRow_nil w w.heap.size 5 1) ⟨b, off, none⟩ l.length cap (cellsU l) (by simp [cellsU]) (Lies.cells hc) (cellsU_one l) (by simp only [maxLen]; omega) (by omega) (Nat.le_refl _)
    refine ⟨v, w1, hr, by simpa using hown, ?_⟩
    exact (Below.refl _ _).grown hgrow (Nat.le_refl _) (by simp [Value.ownBlock])
theorem run_push (w : World) (base : Nat) (v : Value) (l : List UInt8) (z : UInt8) (hown : w.ownsRow base 5 1 v l.length (cellsU l)) (hbase : base ≤ w.heap.size) (hlen : l.length + 1 ≤ 140737488355328) :
    ∃ g cap w1, (Builtin.append_ #[22, 22] 22 #[v, .slice (some ⟨w.heap.size, 0, none⟩) 1 1]).run Try.prog (w.alloc (.cells #[.int .u8 (z.toNat : Int)] 5)) = .ok (.slice (some ⟨g, 0, none⟩) (l.length + 1) cap) w1 ∧ l.length + 1 ≤ cap ∧ cap ≤ 9223372036854775807 ∧ g < w1.heap.size ∧ Row w1 (some ⟨g, 0, none⟩) l cap ∧ w1.cell? ⟨g, l.length, none⟩ = some (.int .u8 (z.toNat : Int)) ∧ Below base w w1 := by
  obtain ⟨i0, hi, hz0, hz1, hz2⟩ := info_parts info5
  obtain ⟨v', w1, hr, hown', hgrow, hnil⟩ := run_append_own (P := Try.prog) (w.alloc (.cells #[.int .u8 (z.toNat : Int)] 5)) base 22 22 5 i0 (.int .u8 0) 1 1 Try.underlying22 hi hz0 hz1 hz2 rfl (by decide) v l.length (cellsU l) (hown.alloc _) ⟨w.heap.size, 0, none⟩ 1 1 (cellsU [z]) rfl (by
    refine Lies.cells (fun j hj => ?_)
    have : j = 0 := by simp at hj; omega
    subst this
    rw [cell_of_row _ _ _ _ _ _ (heap_alloc_new w _)]
    rfl) (cellsU_one _) (by simp only [maxLen]; omega) (by omega) (by simp; omega)
  rw [← cellsU_append] at hown'
  rcases hown'.2 with ⟨rfl, h⟩ | ⟨g, cap, cur, rfl, hb, hg, hnc, hcm, _⟩
  · omega
  have hrow := lies_of_own (l := l ++ [z]) (by simp) hown'
  have hcl := hown'.cellAt l.length (by omega)
  rw [cellsU_get _ _ (by simp)] at hcl
  refine ⟨g, cap, w1, hr, hnc, hcm, (Array.getElem?_eq_some_iff.1 hg).1, ?_, ?_, ?_⟩
  · refine ⟨by omega, hrow.max, hrow.nil, ?_⟩
    by_cases h0 : l = []
    · exact .inl h0
    · refine .inr ⟨g, 0, rfl, fun j hj => ?_⟩
      have hc := hown'.cellAt j (by omega)
      rw [cellsU_get _ _ (by simp; omega)] at hc
      rw [Nat.zero_add, hc]
      congr 3
      simp [List.getD_eq_getElem?_getD, List.getElem?_append_left hj]
  · rw [hcl]
    simp
  · refine ((Below.refl base w).alloc hbase _).grown hgrow (by simp; omega) ?_
    intro k hk
    exact (hown.lt k hk).1
section
variable {ρ : Operand → Value} {o : Oper}
theorem exec_move {x : Operand} {u : Value} (hop : o.op = .move x) (hx : ρ x = u) (w : World) : (execOp ρ o).run Try.prog w = .ok (.value u) w := by
  unfold execOp
  rw [hop]
  simp [hx, go_sem]
theorem exec_str {x : Operand} {a : Option Addr} {c : Nat} (n : Nat) (L : List UInt8) (hop : o.op = .convert 22 9 x) (hx : ρ x = .slice a n c) (hn : n = L.length) (w : World) (h : Lies w a L) : (execOp ρ o).run Try.prog w = .ok (.value (.string ⟨L.toArray⟩)) w := by
  subst hn
  unfold execOp
  rw [hop]
  have := run_str w a L c h
  simp [hx, this, go_sem]
theorem exec_add {x y : Operand} (A B : List UInt8) (hop : o.op = .binOp .add 9 x y 9) (hx : ρ x = .string ⟨A.toArray⟩) (hy : ρ y = .string ⟨B.toArray⟩) (h : A.length + B.length ≤ 9223372036854775807) (w : World) : (execOp ρ o).run Try.prog w = .ok (.value (.string ⟨(A ++ B).toArray⟩)) w := by
  unfold execOp
  rw [hop]
  have := run_string_add_sum (P := Try.prog) (w := w) ⟨A.toArray⟩ ⟨B.toArray⟩ (by simpa [ByteArray.size] using h)
  rw [ByteArray.mk_append_mk] at this
  simp [hx, hy, this, binOp_string_add, eqGuard, go_sem]
theorem exec_neq {x y : Operand} (A : ByteArray) (hop : o.op = .binOp .neq 9 x y 9) (hx : ρ x = .string A) (hy : ρ y = .string A) (w : World) : (execOp ρ o).run Try.prog w = .ok (.value (.bool false)) w := by
  unfold execOp
  rw [hop]
  simp [hx, hy, go_sem]
theorem exec_len {x : Operand} (A : List UInt8) (hop : o.op = .call { callee := .builtin .len, args := #[x], argTypes := #[9] }) (hx : ρ x = .string ⟨A.toArray⟩) (w : World) : (execOp ρ o).run Try.prog w = .ok (.value (.int .i64 (A.length : Int))) w := by
  unfold execOp
  rw [hop]
  simp [hx, go_sem]
theorem exec_u64 {x : Operand} (n : Nat) (hop : o.op = .convert 3 23 x) (hx : ρ x = .int .i64 (n : Int)) (hn : n < 18446744073709551616) (w : World) : (execOp ρ o).run Try.prog w = .ok (.value (.int .u64 (n : Int))) w := by
  unfold execOp
  rw [hop]
  have hw : IntKind.u64.wrap (n : Int) = (n : Int) := by rw [IntKind.wrap_u64]; omega
  simp [hx, hw, go_sem]
end
/-- What the slots of the region hold, whatever the order. -/
def phi (g cc : Nat) (ao : Option Addr) (cap v : Nat) (l t : List UInt8) : Nat → Value → World → Prop
  | 0, x, _ => x = .slice (some ⟨g, 0, none⟩) l.length cc
  | 1, x, _ => x = .int .u64 (v : Int)
  | 2, x, w => ∃ a c, x = .slice a (l.length + (enc v).length) c ∧ Row w a (l ++ enc v) c
  | 3, x, _ => x = .string ⟨(l ++ enc v).toArray⟩
  | 4, x, _ => x = .slice ao l.length cap
  | 5, x, _ => x = .string ⟨l.toArray⟩
  | 6, x, _ => x = .int .u64 (v : Int)
  | 7, x, w => ∃ a c, x = .slice a (enc v).length c ∧ Row w a (enc v) c
  | 8, x, _ => x = .string ⟨(enc v).toArray⟩
  | 9, x, _ => x = .string ⟨(l ++ enc v).toArray⟩
  | 10, x, _ => x = .bool false
  | 11, x, _ => x = .bool false
  | 12, x, _ => x = .slice (some ⟨g, 0, none⟩) l.length cc
  | 13, x, _ => x = .string ⟨t.toArray⟩
  | 14, x, w => ∃ a c, x = .slice a (l.length + (enc t.length).length + t.length) c ∧ Row w a (l ++ enc t.length ++ t) c
  | 15, x, _ => x = .string ⟨(l ++ enc t.length ++ t).toArray⟩
  | 16, x, _ => x = .slice ao l.length cap
  | 17, x, _ => x = .string ⟨l.toArray⟩
  | 18, x, _ => x = .string ⟨t.toArray⟩
  | 19, x, _ => x = .int .i64 (t.length : Int)
  | 20, x, _ => x = .int .u64 (t.length : Int)
  | 21, x, w => ∃ a c, x = .slice a (enc t.length).length c ∧ Row w a (enc t.length) c
  | 22, x, _ => x = .string ⟨(enc t.length).toArray⟩
  | 23, x, _ => x = .string ⟨(l ++ enc t.length).toArray⟩
  | 24, x, _ => x = .string ⟨t.toArray⟩
  | 25, x, _ => x = .string ⟨(l ++ enc t.length ++ t).toArray⟩
  | 26, x, _ => x = .bool false
  | 27, x, _ => x = .bool false
  | _ + 28, _, _ => True
theorem phi_mono (g cc : Nat) (ao : Option Addr) (cap v : Nat) (l t : List UInt8) : ∀ i x w w', phi g cc ao cap v l t i x w → Below w.heap.size w w' → phi g cc ao cap v l t i x w'
  | 0, _, _, _, h, _ => h
  | 1, _, _, _, h, _ => h
  | 2, _, _, _, ⟨a, c, e, r⟩, hb => ⟨a, c, e, r.later hb⟩
  | 3, _, _, _, h, _ => h
  | 4, _, _, _, h, _ => h
  | 5, _, _, _, h, _ => h
  | 6, _, _, _, h, _ => h
  | 7, _, _, _, ⟨a, c, e, r⟩, hb => ⟨a, c, e, r.later hb⟩
  | 8, _, _, _, h, _ => h
  | 9, _, _, _, h, _ => h
  | 10, _, _, _, h, _ => h
  | 11, _, _, _, h, _ => h
  | 12, _, _, _, h, _ => h
  | 13, _, _, _, h, _ => h
  | 14, _, _, _, ⟨a, c, e, r⟩, hb => ⟨a, c, e, r.later hb⟩
  | 15, _, _, _, h, _ => h
  | 16, _, _, _, h, _ => h
  | 17, _, _, _, h, _ => h
  | 18, _, _, _, h, _ => h
  | 19, _, _, _, h, _ => h
  | 20, _, _, _, h, _ => h
  | 21, _, _, _, ⟨a, c, e, r⟩, hb => ⟨a, c, e, r.later hb⟩
  | 22, _, _, _, h, _ => h
  | 23, _, _, _, h, _ => h
  | 24, _, _, _, h, _ => h
  | 25, _, _, _, h, _ => h
  | 26, _, _, _, h, _ => h
  | 27, _, _, _, h, _ => h
  | _ + 28, _, _, _, _, _ => trivial
theorem list28 : ∀ xs : List Value, xs.length = 28 → ∃ x0 x1 x2 x3 x4 x5 x6 x7 x8 x9 x10 x11 x12 x13 x14 x15 x16 x17 x18 x19 x20 x21 x22 x23 x24 x25 x26 x27, xs = [x0, x1, x2, x3, x4, x5, x6, x7, x8, x9, x10, x11, x12, x13, x14, x15, x16, x17, x18, x19, x20, x21, x22, x23, x24, x25, x26, x27]
  | [x0, x1, x2, x3, x4, x5, x6, x7, x8, x9, x10, x11, x12, x13, x14, x15, x16, x17, x18, x19, x20, x21, x22, x23, x24, x25, x26, x27], _ => ⟨_, _, _, _, _, _, _, _, _, _, _, _, _, _, _, _, _, _, _, _, _, _, _, _, _, _, _, _, rfl⟩
set_option maxRecDepth 20000 in
set_option maxHeartbeats 4000000 in
theorem all_walk (ao : Option Addr) (cap v : Nat) (l t : List UInt8) (at_ most : Int) (hv : v < 18446744073709551616) (ht : t.length ≤ 3000) (hm1 : -9223372036854775808 ≤ most) (hm2 : most ≤ 9223372036854775807) (w : World) (hl : Row w ao l cap) (hlen : l.length ≤ 140737488351232) :
    Calls Try.prog 3 #[.slice ao l.length cap, .int .u64 (v : Int), .string ⟨t.toArray⟩, .int .i64 at_, .int .i64 most] w fun e w' => e = .returned (.bool true) ∧ Below w.heap.size w w' := by
  obtain ⟨vc, w1, hcp, hown, hb1⟩ := run_copy w ao cap l hl.lies (by omega)
  obtain ⟨g, cc, w2, hps, hc1, hc2, hg2, hrow, h99, hb2⟩ := run_push w1 w.heap.size vc l 99 hown hb1.size (by omega)
  have HL := hidden (hl.later (hb1.trans hb2))
  have HC := hidden hrow
  have H99 := hidden h99
  have HB := hidden (hb1.trans hb2)
  clear hl hown hb1 hrow h99 hb2
  have hev := enc_len v
  have het := enc_len t.length
  go_enter Try.func3, Try.ntmps3
  go_wp2_with (at_builtin; first | (refine wpList_append_run rfl (.const (.slice none 0 0)) (.tmp 28) 22 22 rfl rfl rfl hcp ?_) | (refine wpList_append_run rfl (.tmp 29) (.tmp 30) 22 22 rfl rfl rfl hps ?_))
  refine wp_region_slots 35 28 (phi g cc ao cap v l t) (by kernel_rfl) (by kernel_rfl) rfl (of_decide_eq_true (by kernel_rfl)) (phi_mono g cc ao cap v l t) ?_ ?_
  · intro j hj xs w3 hxs hbel hpre
    obtain ⟨x0, x1, x2, x3, x4, x5, x6, x7, x8, x9, x10, x11, x12, x13, x14, x15, x16, x17, x18, x19, x20, x21, x22, x23, x24, x25, x26, x27, rfl⟩ := list28 xs hxs
    have RL : Row w3 ao l cap := Row.later (Hid.out HL) hbel
    have RC : Row w3 (some ⟨g, 0, none⟩) l cc := Row.later (Hid.out HC) hbel
    clear hcp hps
    rcases (show j = 0 ∨ j = 1 ∨ j = 2 ∨ j = 3 ∨ j = 4 ∨ j = 5 ∨ j = 6 ∨ j = 7 ∨ j = 8 ∨ j = 9 ∨ j = 10 ∨ j = 11 ∨ j = 12 ∨ j = 13 ∨ j = 14 ∨ j = 15 ∨ j = 16 ∨ j = 17 ∨ j = 18 ∨ j = 19 ∨ j = 20 ∨ j = 21 ∨ j = 22 ∨ j = 23 ∨ j = 24 ∨ j = 25 ∨ j = 26 ∨ j = 27 by omega) with rfl | rfl | rfl | rfl | rfl | rfl | rfl | rfl | rfl | rfl | rfl | rfl | rfl | rfl | rfl | rfl | rfl | rfl | rfl | rfl | rfl | rfl | rfl | rfl | rfl | rfl | rfl | rfl
    · exact wpOp_val (.slice (some ⟨g, 0, none⟩) l.length cc) rfl (by kernel_rfl) (exec_move rfl (by kernel_rfl) w3) ⟨_, by kernel_rfl, rfl, Below.refl _ _⟩
    · exact wpOp_val (.int .u64 (v : Int)) rfl (by kernel_rfl) (exec_move rfl (by kernel_rfl) w3) ⟨_, by kernel_rfl, rfl, Below.refl _ _⟩
    · have e0 : x0 = .slice (some ⟨g, 0, none⟩) l.length cc := hpre 0 (by kernel_rfl)
      subst e0
      have e1 : x1 = .int .u64 (v : Int) := hpre 1 (by kernel_rfl)
      subst e1
      refine wpOp_callR (R := fun u w4 => (∃ a c, u = .slice a (l.length + (enc v).length) c ∧ Row w4 a (l ++ enc v) c) ∧ Below w3.heap.size w3 w4) 8 #[.slice (some ⟨g, 0, none⟩) l.length cc, .int .u64 (v : Int)] rfl (by kernel_rfl) (by kernel_rfl) ((put_any (some ⟨g, 0, none⟩) cc l v hv w3 RC (by omega)).mono fun e w4 ⟨a, c, he, hr, hb⟩ => ⟨_, he, ⟨a, c, rfl, hr⟩, hb⟩) ?_
      rintro _ w4 ⟨⟨a, c, rfl, hr⟩, hb⟩
      exact ⟨_, by kernel_rfl, ⟨a, c, rfl, hr⟩, hb⟩
    · obtain ⟨a2, c2, e2, r2⟩ : ∃ a c, x2 = .slice a (l.length + (enc v).length) c ∧ Row w3 a (l ++ enc v) c := hpre 2 (by kernel_rfl)
      subst e2
      exact wpOp_val (.string ⟨(l ++ enc v).toArray⟩) rfl (by kernel_rfl) (exec_str (a := a2) (c := c2) (l.length + (enc v).length) (l ++ enc v) rfl (by kernel_rfl) (by simp) w3 r2.lies) ⟨_, by kernel_rfl, rfl, Below.refl _ _⟩
    · exact wpOp_val (.slice ao l.length cap) rfl (by kernel_rfl) (exec_move rfl (by kernel_rfl) w3) ⟨_, by kernel_rfl, rfl, Below.refl _ _⟩
    · have e4 : x4 = .slice ao l.length cap := hpre 4 (by kernel_rfl)
      subst e4
      exact wpOp_val (.string ⟨l.toArray⟩) rfl (by kernel_rfl) (exec_str (a := ao) (c := cap) l.length l rfl (by kernel_rfl) rfl w3 RL.lies) ⟨_, by kernel_rfl, rfl, Below.refl _ _⟩
    · exact wpOp_val (.int .u64 (v : Int)) rfl (by kernel_rfl) (exec_move rfl (by kernel_rfl) w3) ⟨_, by kernel_rfl, rfl, Below.refl _ _⟩
    · have e6 : x6 = .int .u64 (v : Int) := hpre 6 (by kernel_rfl)
      subst e6
      refine wpOp_callR (R := fun u w4 => (∃ a c, u = .slice a (enc v).length c ∧ Row w4 a (enc v) c) ∧ Below w3.heap.size w3 w4) 9 #[.int .u64 (v : Int)] rfl (by kernel_rfl) (by kernel_rfl) ((refPut_any v hv w3).mono fun e w4 ⟨a, c, he, hr, hb⟩ => ⟨_, he, ⟨a, c, rfl, hr⟩, hb⟩) ?_
      rintro _ w4 ⟨⟨a, c, rfl, hr⟩, hb⟩
      exact ⟨_, by kernel_rfl, ⟨a, c, rfl, hr⟩, hb⟩
    · obtain ⟨a7, c7, e7, r7⟩ : ∃ a c, x7 = .slice a (enc v).length c ∧ Row w3 a (enc v) c := hpre 7 (by kernel_rfl)
      subst e7
      exact wpOp_val (.string ⟨(enc v).toArray⟩) rfl (by kernel_rfl) (exec_str (a := a7) (c := c7) (enc v).length (enc v) rfl (by kernel_rfl) rfl w3 r7.lies) ⟨_, by kernel_rfl, rfl, Below.refl _ _⟩
    · have e5 : x5 = .string ⟨l.toArray⟩ := hpre 5 (by kernel_rfl)
      subst e5
      have e8 : x8 = .string ⟨(enc v).toArray⟩ := hpre 8 (by kernel_rfl)
      subst e8
      exact wpOp_val (.string ⟨(l ++ enc v).toArray⟩) rfl (by kernel_rfl) (exec_add l (enc v) rfl (by kernel_rfl) (by kernel_rfl) (by omega) w3) ⟨_, by kernel_rfl, rfl, Below.refl _ _⟩
    · have e3 : x3 = .string ⟨(l ++ enc v).toArray⟩ := hpre 3 (by kernel_rfl)
      subst e3
      have e9 : x9 = .string ⟨(l ++ enc v).toArray⟩ := hpre 9 (by kernel_rfl)
      subst e9
      exact wpOp_val (.bool false) rfl (by kernel_rfl) (exec_neq ⟨(l ++ enc v).toArray⟩ rfl (by kernel_rfl) (by kernel_rfl) w3) ⟨_, by kernel_rfl, rfl, Below.refl _ _⟩
    · have e10 : x10 = .bool false := hpre 10 (by kernel_rfl)
      subst e10
      exact wpOp_val (.bool false) rfl (by kernel_rfl) (exec_move rfl (by kernel_rfl) w3) ⟨_, by kernel_rfl, rfl, Below.refl _ _⟩
    · have e11 : x11 = .bool false := hpre 11 (by kernel_rfl)
      subst e11
      exact wpOp_val (.slice (some ⟨g, 0, none⟩) l.length cc) rfl (by kernel_rfl) (exec_move rfl (by kernel_rfl) w3) ⟨_, by kernel_rfl, rfl, Below.refl _ _⟩
    · have e11 : x11 = .bool false := hpre 11 (by kernel_rfl)
      subst e11
      exact wpOp_val (.string ⟨t.toArray⟩) rfl (by kernel_rfl) (exec_move rfl (by kernel_rfl) w3) ⟨_, by kernel_rfl, rfl, Below.refl _ _⟩
    · have e11 : x11 = .bool false := hpre 11 (by kernel_rfl)
      subst e11
      have e12 : x12 = .slice (some ⟨g, 0, none⟩) l.length cc := hpre 12 (by kernel_rfl)
      subst e12
      have e13 : x13 = .string ⟨t.toArray⟩ := hpre 13 (by kernel_rfl)
      subst e13
      refine wpOp_callR (R := fun u w4 => (∃ a c, u = .slice a (l.length + (enc t.length).length + t.length) c ∧ Row w4 a (l ++ enc t.length ++ t) c) ∧ Below w3.heap.size w3 w4) 10 #[.slice (some ⟨g, 0, none⟩) l.length cc, .string ⟨t.toArray⟩] rfl (by kernel_rfl) (by kernel_rfl) ((putText_any (some ⟨g, 0, none⟩) cc l t w3 RC (by omega)).mono fun e w4 ⟨a, c, he, hr, hb⟩ => ⟨_, he, ⟨a, c, rfl, hr⟩, hb⟩) ?_
      rintro _ w4 ⟨⟨a, c, rfl, hr⟩, hb⟩
      exact ⟨_, by kernel_rfl, ⟨a, c, rfl, hr⟩, hb⟩
    · have e11 : x11 = .bool false := hpre 11 (by kernel_rfl)
      subst e11
      obtain ⟨a14, c14, e14, r14⟩ : ∃ a c, x14 = .slice a (l.length + (enc t.length).length + t.length) c ∧ Row w3 a (l ++ enc t.length ++ t) c := hpre 14 (by kernel_rfl)
      subst e14
      exact wpOp_val (.string ⟨(l ++ enc t.length ++ t).toArray⟩) rfl (by kernel_rfl) (exec_str (a := a14) (c := c14) (l.length + (enc t.length).length + t.length) (l ++ enc t.length ++ t) rfl (by kernel_rfl) (by simp; omega) w3 r14.lies) ⟨_, by kernel_rfl, rfl, Below.refl _ _⟩
    · have e11 : x11 = .bool false := hpre 11 (by kernel_rfl)
      subst e11
      exact wpOp_val (.slice ao l.length cap) rfl (by kernel_rfl) (exec_move rfl (by kernel_rfl) w3) ⟨_, by kernel_rfl, rfl, Below.refl _ _⟩
    · have e11 : x11 = .bool false := hpre 11 (by kernel_rfl)
      subst e11
      have e16 : x16 = .slice ao l.length cap := hpre 16 (by kernel_rfl)
      subst e16
      exact wpOp_val (.string ⟨l.toArray⟩) rfl (by kernel_rfl) (exec_str (a := ao) (c := cap) l.length l rfl (by kernel_rfl) rfl w3 RL.lies) ⟨_, by kernel_rfl, rfl, Below.refl _ _⟩
    · have e11 : x11 = .bool false := hpre 11 (by kernel_rfl)
      subst e11
      exact wpOp_val (.string ⟨t.toArray⟩) rfl (by kernel_rfl) (exec_move rfl (by kernel_rfl) w3) ⟨_, by kernel_rfl, rfl, Below.refl _ _⟩
    · have e11 : x11 = .bool false := hpre 11 (by kernel_rfl)
      subst e11
      have e18 : x18 = .string ⟨t.toArray⟩ := hpre 18 (by kernel_rfl)
      subst e18
      exact wpOp_val (.int .i64 (t.length : Int)) rfl (by kernel_rfl) (exec_len t rfl (by kernel_rfl) w3) ⟨_, by kernel_rfl, rfl, Below.refl _ _⟩
    · have e11 : x11 = .bool false := hpre 11 (by kernel_rfl)
      subst e11
      have e19 : x19 = .int .i64 (t.length : Int) := hpre 19 (by kernel_rfl)
      subst e19
      exact wpOp_val (.int .u64 (t.length : Int)) rfl (by kernel_rfl) (exec_u64 t.length rfl (by kernel_rfl) (by omega) w3) ⟨_, by kernel_rfl, rfl, Below.refl _ _⟩
    · have e11 : x11 = .bool false := hpre 11 (by kernel_rfl)
      subst e11
      have e20 : x20 = .int .u64 (t.length : Int) := hpre 20 (by kernel_rfl)
      subst e20
      refine wpOp_callR (R := fun u w4 => (∃ a c, u = .slice a (enc t.length).length c ∧ Row w4 a (enc t.length) c) ∧ Below w3.heap.size w3 w4) 9 #[.int .u64 (t.length : Int)] rfl (by kernel_rfl) (by kernel_rfl) ((refPut_any t.length (by omega) w3).mono fun e w4 ⟨a, c, he, hr, hb⟩ => ⟨_, he, ⟨a, c, rfl, hr⟩, hb⟩) ?_
      rintro _ w4 ⟨⟨a, c, rfl, hr⟩, hb⟩
      exact ⟨_, by kernel_rfl, ⟨a, c, rfl, hr⟩, hb⟩
    · have e11 : x11 = .bool false := hpre 11 (by kernel_rfl)
      subst e11
      obtain ⟨a21, c21, e21, r21⟩ : ∃ a c, x21 = .slice a (enc t.length).length c ∧ Row w3 a (enc t.length) c := hpre 21 (by kernel_rfl)
      subst e21
      exact wpOp_val (.string ⟨(enc t.length).toArray⟩) rfl (by kernel_rfl) (exec_str (a := a21) (c := c21) (enc t.length).length (enc t.length) rfl (by kernel_rfl) rfl w3 r21.lies) ⟨_, by kernel_rfl, rfl, Below.refl _ _⟩
    · have e11 : x11 = .bool false := hpre 11 (by kernel_rfl)
      subst e11
      have e17 : x17 = .string ⟨l.toArray⟩ := hpre 17 (by kernel_rfl)
      subst e17
      have e22 : x22 = .string ⟨(enc t.length).toArray⟩ := hpre 22 (by kernel_rfl)
      subst e22
      exact wpOp_val (.string ⟨(l ++ enc t.length).toArray⟩) rfl (by kernel_rfl) (exec_add l (enc t.length) rfl (by kernel_rfl) (by kernel_rfl) (by omega) w3) ⟨_, by kernel_rfl, rfl, Below.refl _ _⟩
    · have e11 : x11 = .bool false := hpre 11 (by kernel_rfl)
      subst e11
      exact wpOp_val (.string ⟨t.toArray⟩) rfl (by kernel_rfl) (exec_move rfl (by kernel_rfl) w3) ⟨_, by kernel_rfl, rfl, Below.refl _ _⟩
    · have e11 : x11 = .bool false := hpre 11 (by kernel_rfl)
      subst e11
      have e23 : x23 = .string ⟨(l ++ enc t.length).toArray⟩ := hpre 23 (by kernel_rfl)
      subst e23
      have e24 : x24 = .string ⟨t.toArray⟩ := hpre 24 (by kernel_rfl)
      subst e24
      exact wpOp_val (.string ⟨(l ++ enc t.length ++ t).toArray⟩) rfl (by kernel_rfl) (exec_add (l ++ enc t.length) t rfl (by kernel_rfl) (by kernel_rfl) (by simp; omega) w3) ⟨_, by kernel_rfl, rfl, Below.refl _ _⟩
    · have e11 : x11 = .bool false := hpre 11 (by kernel_rfl)
      subst e11
      have e15 : x15 = .string ⟨(l ++ enc t.length ++ t).toArray⟩ := hpre 15 (by kernel_rfl)
      subst e15
      have e25 : x25 = .string ⟨(l ++ enc t.length ++ t).toArray⟩ := hpre 25 (by kernel_rfl)
      subst e25
      exact wpOp_val (.bool false) rfl (by kernel_rfl) (exec_neq ⟨(l ++ enc t.length ++ t).toArray⟩ rfl (by kernel_rfl) (by kernel_rfl) w3) ⟨_, by kernel_rfl, rfl, Below.refl _ _⟩
    · have e11 : x11 = .bool false := hpre 11 (by kernel_rfl)
      subst e11
      have e26 : x26 = .bool false := hpre 26 (by kernel_rfl)
      subst e26
      exact wpOp_val (.bool false) rfl (by kernel_rfl) (by kernel_rfl) ⟨_, by kernel_rfl, rfl, Below.refl _ _⟩
  · intro xs w3 hxs hbel hall
    obtain ⟨x0, x1, x2, x3, x4, x5, x6, x7, x8, x9, x10, x11, x12, x13, x14, x15, x16, x17, x18, x19, x20, x21, x22, x23, x24, x25, x26, x27, rfl⟩ := list28 xs hxs
    have e27 : x27 = .bool false := hall 27 (by omega)
    subst e27
    have RL : Row w3 ao l cap := Row.later (Hid.out HL) hbel
    have RC : Row w3 (some ⟨g, 0, none⟩) l cc := Row.later (Hid.out HC) hbel
    have h99 : w3.cell? ⟨g, l.length, none⟩ = some (.int .u8 99) := (hbel.cell (p := ⟨g, l.length, none⟩) hg2).trans (Hid.out H99)
    have HB3 := hidden ((Hid.out HB).trans (hbel.mono (Hid.out HB).size))
    have k11 := get_any (some ⟨g, 0, none⟩) cc l at_ w3 RC (by omega)
    have k12 := refGet_any ao cap l at_ w3 RL (by omega)
    have k13 := getText_any (some ⟨g, 0, none⟩) cc l at_ most hm1 hm2 w3 RC (by omega)
    have k14 := refGetText_any ao cap l at_ most hm1 hm2 w3 RL (by omega)
    generalize getI l at_ = r at k11 k12
    generalize getT l at_ most = q at k13 k14
    obtain ⟨r1, r2, r3⟩ := r
    obtain ⟨q1, q2, q3⟩ := q
    simp only [tup] at k11 k12
    simp only [tupT] at k13 k14
    have K11 := hidden k11
    have K12 := hidden k12
    have K13 := hidden k13
    have K14 := hidden k14
    clear hcp hps hall hbel RL RC k11 k12 k13 k14
    simp only [slotsAt, List.take_succ_cons, List.take_zero, List.drop_succ_cons, List.drop_zero, List.cons_append, List.nil_append]
    go_wp2_with (first | (go_at_call 11; refine (Hid.out K11).mono ?_; rintro e w4 ⟨rfl, hww⟩; rw [hww]; clear hww w4) | (go_at_call 12; refine (Hid.out K12).mono ?_; rintro e w4 ⟨rfl, hww⟩; rw [hww]; clear hww w4) | (go_at_call 13; refine (Hid.out K13).mono ?_; rintro e w4 ⟨rfl, hww⟩; rw [hww]; clear hww w4) | (go_at_call 14; refine (Hid.out K14).mono ?_; rintro e w4 ⟨rfl, hww⟩; rw [hww]; clear hww w4) | (go_at_call 7; refine (awake_any _).mono ?_; rintro e w4 ⟨rfl, hb4⟩; have HB4 := hidden (Below.trans (Hid.out HB3) (Below.mono hb4 (Hid.out HB3).size)); clear hb4))
    go_ret
    exact ⟨rfl, Hid.out HB4⟩
theorem long_all (a0 : Option Addr) (len0 cap0 : Nat) (v : Int) (s : ByteArray) (at_ most : Int) (w : World) (h : 3000 < s.size) (h2 : s.size ≤ 9223372036854775807) :
    Calls Try.prog 3 #[.slice a0 len0 cap0, .int .u64 v, .string s, .int .i64 at_, .int .i64 most] w fun e w' => e = .returned (.bool true) ∧ Below w.heap.size w w' := by
  go_enter Try.func3, Try.ntmps3
  go_wp2_with (go_at_call 7; refine (awake_any _).mono ?_; rintro e w' ⟨rfl, hb⟩)
  go_ret
  exact ⟨rfl, by assumption⟩
end Go.Proofs.Ytokicdmbibbkpaa
