/- A line's row: what is fixed in its words, and what they are there. -/
import Derived.Test.YtkpcajmphhdmiaaUMAM
import Derived.Test.YtkpcajmphhdmiaaUMAG
import Derived.Test.YtkpcajmphhdmiaaUMAB
namespace Go.Proofs.Ytkpcajmphhdmiaa
open Go.ChangeShapes Go.WideShapes Go.ChangeAt Go.RowKit
set_option linter.unusedVariables false
theorem nput_any (a b : Int) (s : Bool) (h v : Int) (ha : 0 ≤ a) (hv1 : 0 ≤ v) (hv2 : v < 4294967296) (w : World) : Calls Try.prog 81 #[.agg (numV a b s h), .int .u32 v] w fun e w' => e = .returned (.int .u32 (field32 v h b * 2 ^ min a.toNat 32 % 4294967296)) ∧ Below w.heap.size w w' := by
  have hB := hidden (below_new w (.cells (numV a b s h) 104))
  have hF := hidden (fun u => field_any v h b hv1 hv2 u)
  go_enter Try.func81, Try.ntmps81
  go_wp2
  go_quiet ((go_at_call 93; exact Calls.quiet_of_same (Hid.out hF _)))
  go_wp2
  go_ret
  exact ⟨rfl, below_drewN hB.out nq⟩
/-- The bits that are not the same in all words of a shape. -/
def putV (s : Sh) (v : Int) : Int := field32 v s.nsh s.nbits * 2 ^ min s.nat.toNat 32 % 4294967296
def freeV (s : Sh) : Int := bits .or .u32 s.regs (putV s 4294967295)
def wordV (s : Sh) (n : Int) : Int := bits .or .u32 (s.opc * 67108864 % 4294967296) (n * 2 ^ min s.rowAt.toNat 32 % 4294967296)
def rowV (l : Ln) (s : Sh) : Array Value := #[.string l.name, .int .i64 l.kind, .int .u32 (bits .xor .u32 IntKind.u32.max (freeV s)), .int .u32 (wordV s l.num), .int .u32 s.opc, .int .i64 s.rowAt, .int .u32 s.regs, .int .i64 s.nat, .int .i64 s.nbits, .bool s.nsg, .int .i64 s.nsh, .bool s.same]
section
variable {ρ : Operand → Value} {o : Oper}
theorem exec_or32 {x y : Operand} {a b : Int} (hop : o.op = .binOp .or 23 x y 23) (hx : ρ x = .int .u32 a) (hy : ρ y = .int .u32 b) (w : World) : (execOp ρ o).run Try.prog w = .ok (.value (.int .u32 (bits .or .u32 a b))) w := by
  unfold execOp
  rw [hop]
  simp [hx, hy, go_sem]
theorem exec_not32 {x : Operand} {a : Int} (hop : o.op = .unOp .xor 23 x) (hx : ρ x = .int .u32 a) (w : World) : (execOp ρ o).run Try.prog w = .ok (.value (.int .u32 (bits .xor .u32 IntKind.u32.max a))) w := by
  unfold execOp
  rw [hop]
  simp [hx, go_sem]
  rfl
theorem exec_shl26 {x : Operand} {a : Int} (hop : o.op = .binOp .shl 23 x (.const (.int .u64 26)) 49) (hx : ρ x = .int .u32 a) (hc : ρ (.const (.int .u64 26)) = .int .u64 26) (w : World) : (execOp ρ o).run Try.prog w = .ok (.value (.int .u32 (a * 67108864 % 4294967296))) w := by
  unfold execOp
  rw [hop]
  simp [hx, hc, go_sem]
  rfl
theorem exec_shlI {x y : Operand} {a n : Int} (hop : o.op = .binOp .shl 23 x y 3) (hx : ρ x = .int .u32 a) (hy : ρ y = .int .i64 n) (hn : 0 ≤ n) (w : World) : (execOp ρ o).run Try.prog w = .ok (.value (.int .u32 (a * 2 ^ min n.toNat 32 % 4294967296))) w := by
  unfold execOp
  rw [hop]
  simp [hx, hy, go_sem, hn]
  rfl
end
theorem loadNm {w : World} {b : Nat} {s : Sh} (h : Blk w b (shC s) 106) : (loadVar 104 ⟨b, 3, none⟩).run Try.prog w = .ok (.agg (numC s)) w := by
  have := run_loadVar_mid (P := Try.prog) w b 3 104 (numC s).toList _ (fun j v hv => h.cell (by
    rcases j with _ | _ | _ | _ | j
    · exact hv
    · exact hv
    · exact hv
    · exact hv
    · cases hv)) Try.underlying104 rfl (by kernel_rfl)
  simpa using this
theorem loadSh {w : World} {b : Nat} {s : Sh} (h : Blk w b (shC s) 106) : (loadVar 106 ⟨b, 0, none⟩).run Try.prog w = .ok (.agg (shC s)) w :=
  run_loadVar_row w b 106 106 (shC s) (0, 0) _ h Try.underlying106 rfl sizeSh
theorem loadU {w : World} {a : Addr} {v : Value} (hc : w.cell? a = some v) : (loadVar 23 a).run Try.prog w = .ok v w := by simp [loadVar, isAgg, Sem.run_bind, run_underlying Try.underlying23, hc, go_sem]
theorem loadS {w : World} {a : Addr} {v : Value} (hc : w.cell? a = some v) : (loadVar 9 a).run Try.prog w = .ok v w := by simp [loadVar, isAgg, Sem.run_bind, run_underlying Try.underlying9, hc, go_sem]
/-- What the slots of the region hold, whatever the order. -/
def phiFr (qb : Nat) (s : Sh) : Nat → Value → World → Prop
  | 0, x, _ => x = .pointer (some ⟨qb, 2, none⟩)
  | 1, x, _ => x = .int .u32 s.regs
  | 2, x, _ => x = .pointer (some ⟨qb, 3, none⟩)
  | 3, x, _ => x = .agg (numC s)
  | 4, x, _ => x = .int .u32 (putV s 4294967295)
  | 5, x, _ => x = .int .u32 (freeV s)
  | 6, x, _ => x = .int .u32 (freeV s)
  | _ + 7, _, _ => True
theorem phiFr_mono (qb : Nat) (s : Sh) : ∀ i x w w', phiFr qb s i x w → Below w.heap.size w w' → phiFr qb s i x w'
  | 0, _, _, _, h, _ => h
  | 1, _, _, _, h, _ => h
  | 2, _, _, _, h, _ => h
  | 3, _, _, _, h, _ => h
  | 4, _, _, _, h, _ => h
  | 5, _, _, _, h, _ => h
  | 6, _, _, _, h, _ => h
  | _ + 7, _, _, _, _, _ => trivial
theorem list7 : ∀ xs : List Value, xs.length = 7 → ∃ x0 x1 x2 x3 x4 x5 x6, xs = [x0, x1, x2, x3, x4, x5, x6]
  | [x0, x1, x2, x3, x4, x5, x6], _ => ⟨_, _, _, _, _, _, _, rfl⟩
set_option maxRecDepth 20000 in
set_option maxHeartbeats 1000000 in
theorem free_any (s : Sh) (hn : 0 ≤ s.nat) (w : World) : Calls Try.prog 77 #[.agg (shC s)] w fun e w' => e = .returned (.int .u32 (freeV s)) ∧ Below w.heap.size w w' := by
  have hQ0 := hidden (Blk.new w (shC s) 106)
  have hB0 := hidden (below_new w (.cells (shC s) 106))
  go_enter Try.func77, Try.ntmps77
  go_upto_region 1 with fail
  obtain ⟨qn, hqn⟩ : ∃ qn, qn = w.heap.size := ⟨_, rfl⟩
  obtain ⟨wr, hwr⟩ : ∃ wr, wr = w.alloc (.cells (shC s) 106) := ⟨_, rfl⟩
  rw [← hqn, ← hwr] at hQ0
  rw [← hwr] at hB0
  try rw [← hwr]
  try rw [← hqn]
  refine wp_region_on later_below [3, 4, 5, 6, 7, 8, 2] 7 (phiFr qn s) (by kernel_rfl) (by kernel_rfl) rfl rfl (phiFr_mono qn s) ?_ ?_
  · intro j hj xs w3 hxs hR hpre
    obtain ⟨x0, x1, x2, x3, x4, x5, x6, rfl⟩ := list7 xs hxs
    have hQ : Blk w3 qn (shC s) 106 := hQ0.out.later hR
    rcases (show j = 0 ∨ j = 1 ∨ j = 2 ∨ j = 3 ∨ j = 4 ∨ j = 5 ∨ j = 6 by omega) with rfl | rfl | rfl | rfl | rfl | rfl | rfl
    · exact wpOp_run (.pointer (some ⟨qn, 2, none⟩)) rfl (by kernel_rfl) (by kernel_rfl) ⟨_, by kernel_rfl, rfl, Below.refl _ _⟩
    · have e0 : x0 = .pointer (some ⟨qn, 2, none⟩) := hpre 0 (by kernel_rfl)
      subst e0
      exact wpOp_run (.int .u32 s.regs) rfl (by kernel_rfl) (exec_load 23 rfl (by kernel_rfl) w3 (loadU (hQ.cell (j := 2) rfl))) ⟨_, by kernel_rfl, rfl, Below.refl _ _⟩
    · exact wpOp_run (.pointer (some ⟨qn, 3, none⟩)) rfl (by kernel_rfl) (by kernel_rfl) ⟨_, by kernel_rfl, rfl, Below.refl _ _⟩
    · have e2 : x2 = .pointer (some ⟨qn, 3, none⟩) := hpre 2 (by kernel_rfl)
      subst e2
      exact wpOp_run (.agg (numC s)) rfl (by kernel_rfl) (exec_load 104 rfl (by kernel_rfl) w3 (loadNm hQ)) ⟨_, by kernel_rfl, rfl, Below.refl _ _⟩
    · have e3 : x3 = .agg (numC s) := hpre 3 (by kernel_rfl)
      subst e3
      refine wpOp_callR (R := fun u w4 => u = .int .u32 (putV s 4294967295) ∧ Below w3.heap.size w3 w4) 81 #[.agg (numC s), .int .u32 4294967295] rfl (by kernel_rfl) (by kernel_rfl) ((nput_any s.nat s.nbits s.nsg s.nsh 4294967295 hn (by omega) (by omega) w3).mono fun e w4 ⟨he, hb⟩ => ⟨_, he, rfl, hb⟩) ?_
      rintro _ w4 ⟨rfl, hb⟩
      exact ⟨_, by kernel_rfl, rfl, hb⟩
    · have e1 : x1 = .int .u32 s.regs := hpre 1 (by kernel_rfl)
      subst e1
      have e4 : x4 = .int .u32 (putV s 4294967295) := hpre 4 (by kernel_rfl)
      subst e4
      exact wpOp_run (.int .u32 (freeV s)) rfl (by kernel_rfl) (exec_or32 rfl (by kernel_rfl) (by kernel_rfl) w3) ⟨_, by kernel_rfl, rfl, Below.refl _ _⟩
    · have e5 : x5 = .int .u32 (freeV s) := hpre 5 (by kernel_rfl)
      subst e5
      exact wpOp_run (.int .u32 (freeV s)) rfl (by kernel_rfl) (by kernel_rfl) ⟨_, by kernel_rfl, rfl, Below.refl _ _⟩
  · intro xs w3 hxs hR hall
    obtain ⟨x0, x1, x2, x3, x4, x5, x6, rfl⟩ := list7 xs hxs
    have e6 : x6 = .int .u32 (freeV s) := hall 6 (by omega)
    subst e6
    have HR := hidden hR
    clear hall hR hxs
    simp only [slotsOn, putAll, List.set_cons_succ, List.set_cons_zero]
    go_wp2
    go_ret
    exact ⟨rfl, hB0.out.trans (HR.out.mono hB0.out.size)⟩
theorem buildRow (l : Ln) (s : Sh) (w : World) : (Instr.build 108 #[(0, .string l.name), (1, .int .i64 l.kind), (2, .int .u32 (bits .xor .u32 IntKind.u32.max (freeV s))), (3, .int .u32 (wordV s l.num)), (4, .agg (shC s))]).run Try.prog w = .ok (.agg (rowV l s)) w := by kernel_rfl
def row0 : Array Value := #[.string ⟨#[]⟩, .int .i64 0, .int .u32 0, .int .u32 0, .int .u32 0, .int .i64 0, .int .u32 0, .int .i64 0, .int .i64 0, .bool false, .int .i64 0, .bool false]
theorem sizeRow : (Try.prog.info? 108).map (·.size) = some 12 := by kernel_rfl
theorem rowV_one (l : Ln) (s : Sh) : (rowV l s).all (·.oneCell') = true := by kernel_rfl
theorem wpList_storeRow {ops : Array Oper} {rest : List Oper} {o : Oper} {a : Act} {w : World} {Q : Exit → Act → World → Prop} (hgd : o.guard = none) (hd : o.dst = none) {x y : Operand} (ho : o.op = .store 108 x y) (l : Ln) (s : Sh)
    (g : Nat) (hx : a.eval x = .pointer (some ⟨g, 0, none⟩)) (hy : a.eval y = .agg (rowV l s)) (hg : Blk w g row0 108)
    (h : ∀ w1, Blk w1 g (rowV l s) 108 → (∀ B u, Below B u w → B ≤ g → Below B u w1) → wpList Try.prog ops Q rest a w1) : wpList Try.prog ops Q (o :: rest) a w := by
  have e : a.put o.dst undef = a := by rw [hd]; rfl
  refine wpList_store_row hgd 108 x y ho g (rowV l s) hx hy 108 row0 hg sizeRow rfl (rowV_one l s) (by rw [e]; exact h _ (setRow_heap w g row0 (rowV l s) 108 (0, 0) hg) (fun B u hb hB => below_setRow hb hB (rowV l s)))
/-- What the slots of the region hold, whatever the order. -/
def phiRw (qb qr qs : Nat) (l : Ln) (s : Sh) : Nat → Value → World → Prop
  | 0, x, _ => x = .pointer (some ⟨qb, 0, none⟩)
  | 1, x, _ => x = .string l.name
  | 2, x, _ => x = .pointer (some ⟨qb, 3, none⟩)
  | 3, x, _ => x = .int .i64 l.kind
  | 4, x, _ => x = .agg (shC s)
  | 5, x, _ => x = .int .u32 (freeV s)
  | 6, x, _ => x = .int .u32 (bits .xor .u32 IntKind.u32.max (freeV s))
  | 7, x, _ => x = .pointer (some ⟨qs, 0, none⟩)
  | 8, x, _ => x = .int .u32 s.opc
  | 9, x, _ => x = .int .u32 (s.opc * 67108864 % 4294967296)
  | 10, x, _ => x = .pointer (some ⟨qb, 2, none⟩)
  | 11, x, _ => x = .int .u32 l.num
  | 12, x, _ => x = .pointer (some ⟨qs, 1, none⟩)
  | 13, x, _ => x = .int .i64 s.rowAt
  | 14, x, _ => x = .int .u32 (l.num * 2 ^ min s.rowAt.toNat 32 % 4294967296)
  | 15, x, _ => x = .int .u32 (wordV s l.num)
  | 16, x, _ => x = .agg (shC s)
  | 17, x, _ => x = .agg (rowV l s)
  | _ + 18, _, _ => True
theorem phiRw_mono (qb qr qs : Nat) (l : Ln) (s : Sh) : ∀ i x w w', phiRw qb qr qs l s i x w → Below w.heap.size w w' → phiRw qb qr qs l s i x w'
  | 0, _, _, _, h, _ => h
  | 1, _, _, _, h, _ => h
  | 2, _, _, _, h, _ => h
  | 3, _, _, _, h, _ => h
  | 4, _, _, _, h, _ => h
  | 5, _, _, _, h, _ => h
  | 6, _, _, _, h, _ => h
  | 7, _, _, _, h, _ => h
  | 8, _, _, _, h, _ => h
  | 9, _, _, _, h, _ => h
  | 10, _, _, _, h, _ => h
  | 11, _, _, _, h, _ => h
  | 12, _, _, _, h, _ => h
  | 13, _, _, _, h, _ => h
  | 14, _, _, _, h, _ => h
  | 15, _, _, _, h, _ => h
  | 16, _, _, _, h, _ => h
  | 17, _, _, _, h, _ => h
  | _ + 18, _, _, _, _, _ => trivial
theorem list18 : ∀ xs : List Value, xs.length = 18 → ∃ x0 x1 x2 x3 x4 x5 x6 x7 x8 x9 x10 x11 x12 x13 x14 x15 x16 x17, xs = [x0, x1, x2, x3, x4, x5, x6, x7, x8, x9, x10, x11, x12, x13, x14, x15, x16, x17]
  | [x0, x1, x2, x3, x4, x5, x6, x7, x8, x9, x10, x11, x12, x13, x14, x15, x16, x17], _ => ⟨_, _, _, _, _, _, _, _, _, _, _, _, _, _, _, _, _, _, rfl⟩
def sh0 : Array Value := #[.int .u32 0, .int .i64 0, .int .u32 0, .int .i64 0, .int .i64 0, .bool false, .int .i64 0, .bool false]
theorem shC_one (s : Sh) : (shC s).all (·.oneCell') = true := by kernel_rfl
theorem wpList_storeSh {ops : Array Oper} {rest : List Oper} {o : Oper} {a : Act} {w : World} {Q : Exit → Act → World → Prop} (hgd : o.guard = none) (hd : o.dst = none) {x y : Operand} (ho : o.op = .store 106 x y) (s : Sh)
    (g : Nat) (hx : a.eval x = .pointer (some ⟨g, 0, none⟩)) (hy : a.eval y = .agg (shC s)) (hg : Blk w g sh0 106)
    (h : ∀ w1, Blk w1 g (shC s) 106 → (∀ B u, Below B u w → B ≤ g → Below B u w1) → (∀ b, b ≠ g → w1.heap[b]? = w.heap[b]?) → wpList Try.prog ops Q rest a w1) : wpList Try.prog ops Q (o :: rest) a w := by
  have e : a.put o.dst undef = a := by rw [hd]; rfl
  refine wpList_store_row hgd 106 x y ho g (shC s) hx hy 106 sh0 hg sizeSh rfl (shC_one s) (by rw [e]; exact h _ (setRow_heap w g sh0 (shC s) 106 (0, 0) hg) (fun B u hb hB => below_setRow hb hB (shC s)) (fun b hb => by
    simp only [World.setRow, Array.getElem?_modify]
    rw [if_neg (fun e => hb e.symm)]))
set_option maxRecDepth 20000 in
set_option maxHeartbeats 2000000 in
theorem lineRow_any (l : Ln) (s : Sh) (hn : 0 ≤ s.nat) (hr : 0 ≤ s.rowAt) (hsh : ∀ u, Calls Try.prog 76 #[.int .i64 l.form] u fun e w' => e = .returned (.agg (shC s)) ∧ Below u.heap.size u w') (w : World) : Calls Try.prog 71 #[.agg (lineC l).toArray] w fun e w' => e = .returned (.agg (rowV l s)) ∧ Below w.heap.size w w' := by
  have HS := hidden hsh
  clear hsh
  obtain ⟨qn, hqn⟩ : ∃ qn, w.heap.size = qn := ⟨_, rfl⟩
  obtain ⟨wa, hwa⟩ : ∃ wa, w.alloc (.cells (lineC l).toArray 123) = wa := ⟨_, rfl⟩
  have hQa : Blk wa qn (lineC l).toArray 123 := by rw [← hwa, ← hqn]; exact Blk.new w _ _
  have hBa : Below w.heap.size w wa := by rw [← hwa]; exact below_new w _
  obtain ⟨rn, hrn⟩ : ∃ rn, wa.heap.size = rn := ⟨_, rfl⟩
  obtain ⟨wb, hwb⟩ : ∃ wb, wa.alloc (.cells #[.string ⟨#[]⟩, .int .i64 0, .int .u32 0, .int .u32 0, .int .u32 0, .int .i64 0, .int .u32 0, .int .i64 0, .int .i64 0, .bool false, .int .i64 0, .bool false] 108) = wb := ⟨_, rfl⟩
  have hRb : Blk wb rn row0 108 := by rw [← hwb, ← hrn]; exact Blk.new wa _ _
  have hBb : Below wa.heap.size wa wb := by rw [← hwb]; exact below_new wa _
  have HQb := hidden (hQa.later hBb)
  have HBw := hidden (hBa.trans (hBb.mono hBa.size))
  have HRB := hidden hRb
  have hle : w.heap.size ≤ rn := by rw [← hrn]; exact hBa.size
  have HLE := hidden hle
  clear hQa hBa hRb hBb hle
  go_enter Try.func71, Try.ntmps71
  go_upto_region 1 with fail
  have c1 : wb.cell? ⟨qn, 1, none⟩ = some (.int .i64 l.form) := HQb.out.cell rfl
  clear hwa hrn hwb
  go_upto_region 2 with (first | (go_at_call 76; refine (HS.out _).mono ?_; rintro e w1 ⟨rfl, hb1⟩; have HB1 := hidden hb1; clear hb1) | (refine wpList_storeSh (s := s) rfl rfl rfl _ rfl rfl (Blk.new _ _ _) ?_; rintro w2 hk2 hb2 hs2; have HK2 := hidden hk2; have HB2 := hidden hb2; have Hs2 := hidden hs2; clear hk2 hb2 hs2))
  obtain ⟨sn, hsn⟩ : ∃ sn, sn = w1.heap.size := ⟨_, rfl⟩
  rw [← hsn] at HK2 ⊢
  have hba := below_new w1 (.cells sh0 106)
  have hQ2 := HQb.out.later HB1.out
  have hR2 := HRB.out.later HB1.out
  have hQ3 := hQ2.later hba
  have hR3 := hR2.later hba
  have hqs : qn ≠ sn := by have := hQ2.lt; omega
  have hrs : rn ≠ sn := by have := hR2.lt; omega
  have HQ := hidden (show Blk w2 qn (lineC l).toArray 123 from (Hs2.out qn (by rw [← hsn]; exact hqs)).trans hQ3)
  have HR0 := hidden (show Blk w2 rn row0 108 from (Hs2.out rn (by rw [← hsn]; exact hrs)).trans hR3)
  have hb12 := HBw.out.trans (HB1.out.mono HBw.out.size)
  have hb13 := hb12.trans (hba.mono hb12.size)
  have HBL := hidden (HB2.out w.heap.size w hb13 hb12.size)
  clear hba hQ2 hR2 hQ3 hR3 hqs hrs hb12 hb13 HB2 HB1 HQb HRB HBw c1 Hs2 hsn hqn
  refine wp_region_head later_below 18 [7, 8, 9, 10, 11, 12, 13, 14, 15, 16, 17, 18, 19, 20, 21, 22, 23, 24] (phiRw qn rn sn l s) (by kernel_rfl) (by kernel_rfl) rfl (phiRw_mono qn rn sn l s) ?_ ?_
  · intro j hj xs w3 hxs hR hpre
    obtain ⟨x0, x1, x2, x3, x4, x5, x6, x7, x8, x9, x10, x11, x12, x13, x14, x15, x16, x17, rfl⟩ := list18 xs hxs
    have hQ : Blk w3 qn (lineC l).toArray 123 := HQ.out.later hR
    have hS : Blk w3 sn (shC s) 106 := HK2.out.later hR
    rcases (show j = 0 ∨ j = 1 ∨ j = 2 ∨ j = 3 ∨ j = 4 ∨ j = 5 ∨ j = 6 ∨ j = 7 ∨ j = 8 ∨ j = 9 ∨ j = 10 ∨ j = 11 ∨ j = 12 ∨ j = 13 ∨ j = 14 ∨ j = 15 ∨ j = 16 ∨ j = 17 by omega) with rfl | rfl | rfl | rfl | rfl | rfl | rfl | rfl | rfl | rfl | rfl | rfl | rfl | rfl | rfl | rfl | rfl | rfl
    · exact wpOp_run (.pointer (some ⟨qn, 0, none⟩)) rfl (by kernel_rfl) (by kernel_rfl) ⟨_, by kernel_rfl, rfl, Below.refl _ _⟩
    · have e0 : x0 = .pointer (some ⟨qn, 0, none⟩) := hpre 0 (by kernel_rfl)
      subst e0
      exact wpOp_run (.string l.name) rfl (by kernel_rfl) (exec_load 9 rfl (by kernel_rfl) w3 (loadS (hQ.cell (j := 0) rfl))) ⟨_, by kernel_rfl, rfl, Below.refl _ _⟩
    · exact wpOp_run (.pointer (some ⟨qn, 3, none⟩)) rfl (by kernel_rfl) (by kernel_rfl) ⟨_, by kernel_rfl, rfl, Below.refl _ _⟩
    · have e2 : x2 = .pointer (some ⟨qn, 3, none⟩) := hpre 2 (by kernel_rfl)
      subst e2
      exact wpOp_run (.int .i64 l.kind) rfl (by kernel_rfl) (exec_load 3 rfl (by kernel_rfl) w3 (load3 (hQ.cell (j := 3) rfl))) ⟨_, by kernel_rfl, rfl, Below.refl _ _⟩
    · exact wpOp_run (.agg (shC s)) rfl (by kernel_rfl) (exec_load 106 rfl (by kernel_rfl) w3 (loadSh hS)) ⟨_, by kernel_rfl, rfl, Below.refl _ _⟩
    · have e4 : x4 = .agg (shC s) := hpre 4 (by kernel_rfl)
      subst e4
      refine wpOp_callR (R := fun u w4 => u = .int .u32 (freeV s) ∧ Below w3.heap.size w3 w4) 77 #[.agg (shC s)] rfl (by kernel_rfl) (by kernel_rfl) ((free_any s hn w3).mono fun e w4 ⟨he, hb⟩ => ⟨_, he, rfl, hb⟩) ?_
      rintro _ w4 ⟨rfl, hb⟩
      exact ⟨_, by kernel_rfl, rfl, hb⟩
    · have e5 : x5 = .int .u32 (freeV s) := hpre 5 (by kernel_rfl)
      subst e5
      exact wpOp_run (.int .u32 (bits .xor .u32 IntKind.u32.max (freeV s))) rfl (by kernel_rfl) (exec_not32 rfl (by kernel_rfl) w3) ⟨_, by kernel_rfl, rfl, Below.refl _ _⟩
    · exact wpOp_run (.pointer (some ⟨sn, 0, none⟩)) rfl (by kernel_rfl) (by kernel_rfl) ⟨_, by kernel_rfl, rfl, Below.refl _ _⟩
    · have e7 : x7 = .pointer (some ⟨sn, 0, none⟩) := hpre 7 (by kernel_rfl)
      subst e7
      exact wpOp_run (.int .u32 s.opc) rfl (by kernel_rfl) (exec_load 23 rfl (by kernel_rfl) w3 (loadU (hS.cell (j := 0) rfl))) ⟨_, by kernel_rfl, rfl, Below.refl _ _⟩
    · have e8 : x8 = .int .u32 s.opc := hpre 8 (by kernel_rfl)
      subst e8
      exact wpOp_run (.int .u32 (s.opc * 67108864 % 4294967296)) rfl (by kernel_rfl) (exec_shl26 rfl (by kernel_rfl) (by kernel_rfl) w3) ⟨_, by kernel_rfl, rfl, Below.refl _ _⟩
    · exact wpOp_run (.pointer (some ⟨qn, 2, none⟩)) rfl (by kernel_rfl) (by kernel_rfl) ⟨_, by kernel_rfl, rfl, Below.refl _ _⟩
    · have e10 : x10 = .pointer (some ⟨qn, 2, none⟩) := hpre 10 (by kernel_rfl)
      subst e10
      exact wpOp_run (.int .u32 l.num) rfl (by kernel_rfl) (exec_load 23 rfl (by kernel_rfl) w3 (loadU (hQ.cell (j := 2) rfl))) ⟨_, by kernel_rfl, rfl, Below.refl _ _⟩
    · exact wpOp_run (.pointer (some ⟨sn, 1, none⟩)) rfl (by kernel_rfl) (by kernel_rfl) ⟨_, by kernel_rfl, rfl, Below.refl _ _⟩
    · have e12 : x12 = .pointer (some ⟨sn, 1, none⟩) := hpre 12 (by kernel_rfl)
      subst e12
      exact wpOp_run (.int .i64 s.rowAt) rfl (by kernel_rfl) (exec_load 3 rfl (by kernel_rfl) w3 (load3 (hS.cell (j := 1) rfl))) ⟨_, by kernel_rfl, rfl, Below.refl _ _⟩
    · have e11 : x11 = .int .u32 l.num := hpre 11 (by kernel_rfl)
      subst e11
      have e13 : x13 = .int .i64 s.rowAt := hpre 13 (by kernel_rfl)
      subst e13
      exact wpOp_run (.int .u32 (l.num * 2 ^ min s.rowAt.toNat 32 % 4294967296)) rfl (by kernel_rfl) (exec_shlI rfl (by kernel_rfl) (by kernel_rfl) hr w3) ⟨_, by kernel_rfl, rfl, Below.refl _ _⟩
    · have e9 : x9 = .int .u32 (s.opc * 67108864 % 4294967296) := hpre 9 (by kernel_rfl)
      subst e9
      have e14 : x14 = .int .u32 (l.num * 2 ^ min s.rowAt.toNat 32 % 4294967296) := hpre 14 (by kernel_rfl)
      subst e14
      exact wpOp_run (.int .u32 (wordV s l.num)) rfl (by kernel_rfl) (exec_or32 rfl (by kernel_rfl) (by kernel_rfl) w3) ⟨_, by kernel_rfl, rfl, Below.refl _ _⟩
    · exact wpOp_run (.agg (shC s)) rfl (by kernel_rfl) (exec_load 106 rfl (by kernel_rfl) w3 (loadSh hS)) ⟨_, by kernel_rfl, rfl, Below.refl _ _⟩
    · have e1 : x1 = .string l.name := hpre 1 (by kernel_rfl)
      subst e1
      have e3 : x3 = .int .i64 l.kind := hpre 3 (by kernel_rfl)
      subst e3
      have e6 : x6 = .int .u32 (bits .xor .u32 IntKind.u32.max (freeV s)) := hpre 6 (by kernel_rfl)
      subst e6
      have e15 : x15 = .int .u32 (wordV s l.num) := hpre 15 (by kernel_rfl)
      subst e15
      have e16 : x16 = .agg (shC s) := hpre 16 (by kernel_rfl)
      subst e16
      exact wpOp_run (.agg (rowV l s)) rfl (by kernel_rfl) (exec_build 108 rfl (by kernel_rfl) w3 (buildRow l s w3)) ⟨_, by kernel_rfl, rfl, Below.refl _ _⟩
  · intro xs w3 hxs hR hall
    obtain ⟨x0, x1, x2, x3, x4, x5, x6, x7, x8, x9, x10, x11, x12, x13, x14, x15, x16, x17, rfl⟩ := list18 xs hxs
    have e17 : x17 = .agg (rowV l s) := hall 17 (by omega)
    subst e17
    have HR := hidden hR
    clear hall hR hxs
    simp only [slotsOn, putAll, List.set_cons_succ, List.set_cons_zero, List.drop_succ_cons, List.drop_zero]
    refine wpList_storeRow (l := l) (s := s) rfl rfl rfl rn (by kernel_rfl) (by kernel_rfl) (HR0.out.later HR.out) ?_
    rintro w5 hk5 hb5
    have HK5 := hidden hk5
    have HB5 := hidden (hb5 w.heap.size w (HBL.out.trans (HR.out.mono HBL.out.size)) HLE.out)
    clear hk5 hb5
    go_wp2
    exact bodyPost_ret (results_cell_row rfl _ _ rn 108 (rowV l s) (0, 0) _ rfl HK5.out Try.underlying108 rfl sizeRow) rfl ⟨rfl, HB5.out⟩
end Go.Proofs.Ytkpcajmphhdmiaa
namespace Go.Proofs.Ytkpcajmphhdmiaa
open Go.ChangeShapes Go.WideShapes Go.ChangeAt Go.RowKit
set_option linter.unusedVariables false
theorem shape_any (f : Int) (h0 : 0 ≤ f) (h1 : f ≤ 17) (w : World) : Calls Try.prog 76 #[.int .i64 f] w fun e w' => e = .returned (.agg (shC (shOf f))) ∧ Below w.heap.size w w' := by
  rcases (show f = 0 ∨ f = 1 ∨ f = 2 ∨ f = 3 ∨ f = 4 ∨ f = 5 ∨ f = 6 ∨ f = 7 ∨ f = 8 ∨ f = 9 ∨ f = 10 ∨ f = 11 ∨ f = 12 ∨ f = 13 ∨ f = 14 ∨ f = 15 ∨ f = 16 ∨ f = 17 by omega) with rfl | rfl | rfl | rfl | rfl | rfl | rfl | rfl | rfl | rfl | rfl | rfl | rfl | rfl | rfl | rfl | rfl | rfl
  · exact shape_0 w
  · exact shape_1 w
  · exact shape_2 w
  · exact shape_3 w
  · exact shape_4 w
  · exact shape_5 w
  · exact shape_6 w
  · exact shape_7 w
  · exact shape_8 w
  · exact shape_9 w
  · exact shape_10 w
  · exact shape_11 w
  · exact shape_12 w
  · exact shape_13 w
  · exact shape_14 w
  · exact shape_15 w
  · exact shape_16 w
  · exact shape_17 w
theorem linL_forms : linL.all (fun l => decide (0 ≤ l.form) && (decide (l.form ≤ 17) && (decide (0 ≤ l.num) && (decide (l.num < 64) && (decide (0 ≤ (shOf l.form).nat) && decide (0 ≤ (shOf l.form).rowAt)))))) = true := by kernel_rfl
theorem linL_at {k : Nat} (hk : k < 69) : 0 ≤ (linL.getD k noLn).form ∧ (linL.getD k noLn).form ≤ 17 ∧ 0 ≤ (linL.getD k noLn).num ∧ (linL.getD k noLn).num < 64 ∧ 0 ≤ (shOf (linL.getD k noLn).form).nat ∧ 0 ≤ (shOf (linL.getD k noLn).form).rowAt := by
  have h := List.all_eq_true.1 linL_forms (linL.getD k noLn) (by
    rw [List.getD_eq_getElem?_getD, List.getElem?_eq_getElem (by rw [linL_len]; exact hk)]
    exact List.getElem_mem _)
  simpa using h
/-- The row of a line. -/
def rowL (l : Ln) : Array Value := rowV l (shOf l.form)
theorem lineRow_at {k : Nat} (hk : k < 69) (w : World) : Calls Try.prog 71 #[.agg (lineA k)] w fun e w' => e = .returned (.agg (rowL (linL.getD k noLn))) ∧ Below w.heap.size w w' := by
  obtain ⟨h0, h1, _, _, h2, h3⟩ := linL_at hk
  exact lineRow_any _ _ h2 h3 (shape_any _ h0 h1) w
theorem flatL_cut : ∀ (l : List Ln) (k : Nat), k < l.length → ((flatL l).drop (k * 4)).take 4 = lineC (l.getD k noLn)
  | [], k, h => by simp at h
  | r :: l, 0, _ => rfl
  | r :: l, k + 1, h => by
    have := flatL_cut l k (by simpa using h)
    have e : (flatL (r :: l)).drop ((k + 1) * 4) = (flatL l).drop (k * 4) := by
      rw [show (k + 1) * 4 = 4 + k * 4 by omega, ← List.drop_drop]
      rfl
    rw [e]
    exact this
theorem linC_cut {k : Nat} (hk : k < 69) : linC.extract (k * 4) (k * 4 + 4) = lineA k := by
  have h := flatL_cut linL k (by rw [linL_len]; exact hk)
  apply Array.toList_inj.1
  rw [Array.toList_extract, List.extract_eq_take_drop]
  rw [show k * 4 + 4 - k * 4 = 4 by omega]
  exact h
theorem index_line {k : Nat} (hk : k < 69) (w : World) : (Instr.index 124 (.agg linC) (.int .i64 (k : Int))).run Try.prog w = .ok (.agg (lineA k)) w := by
  have h1 : (0 : Int) ≤ (k : Int) ∧ (k : Int) < ((69 : Nat) : Int) := by omega
  have hz : (sizeOf 123).run Try.prog w = .ok 4 w := by kernel_rfl
  rw [← linC_cut hk]
  simp [Instr.index, part, Sem.run_bind, run_underlying Try.underlying124, asIntOf, hk, hz, go_sem]
theorem row0_build (w : World) : (Instr.build 108 #[]).run Try.prog w = .ok (.agg row0) w := by kernel_rfl
def isOpB (op : Int) : Bool := decide (1 ≤ op) && decide (op ≤ 69)
theorem isOp_any (op : Int) (w : World) : Calls Try.prog 69 #[.int .i64 op] w fun e w' => e = .returned (.bool (isOpB op)) ∧ w' = w := by
  unfold isOpB
  by_cases h1 : 1 ≤ op
  · have d1 : decide (1 ≤ op) = true := decide_eq_true h1
    by_cases h2 : op ≤ 69
    · have d2 : decide (op ≤ 69) = true := decide_eq_true h2
      go_enter Try.func69, Try.ntmps69
      go_wp2
      go_ret
      exact ⟨ret_bool (by rw [d1, d2]; rfl), rfl⟩
    · have d2 : decide (op ≤ 69) = false := decide_eq_false h2
      go_enter Try.func69, Try.ntmps69
      go_wp2
      go_ret
      exact ⟨ret_bool rfl, rfl⟩
  · have d1 : decide (1 ≤ op) = false := decide_eq_false h1
    go_enter Try.func69, Try.ntmps69
    go_wp2
    go_ret
    exact ⟨ret_bool rfl, rfl⟩
/-- The row of an Op. -/
def rowP (op : Int) : Array Value := if isOpB op = true then rowL (linL.getD (op - 1).toNat noLn) else row0
theorem row_zero (w : World) : Blk (w.alloc (.cells row0 108)) w.heap.size row0 108 := Blk.new w _ _
set_option maxRecDepth 20000 in
theorem rowOf_no (op : Int) (h : isOpB op = false) (w : World) : Calls Try.prog 60 #[.int .i64 op] w fun e w' => e = .returned (.agg row0) ∧ Below w.heap.size w w' := by
  have HO := hidden (fun u => isOp_any op u)
  rw [h] at HO
  go_enter Try.func60, Try.ntmps60
  go_wp2_with (go_at_call 69; refine (HO.out _).mono ?_; rintro e w1 ⟨rfl, hww⟩; rw [hww]; clear hww w1)
  exact bodyPost_ret (results_cell_row rfl _ _ w.heap.size 108 row0 (0, 0) _ rfl (row_zero w) Try.underlying108 rfl sizeRow) rfl ⟨rfl, below_new w _⟩
set_option maxRecDepth 20000 in
set_option maxHeartbeats 1000000 in
theorem rowOf_yes {k : Nat} (hk : k < 69) (w : World) : Calls Try.prog 60 #[.int .i64 ((k : Int) + 1)] w fun e w' => e = .returned (.agg (rowL (linL.getD k noLn))) ∧ Below w.heap.size w w' := by
  have HO := hidden (fun u => isOp_any ((k : Int) + 1) u)
  rw [show isOpB ((k : Int) + 1) = true by unfold isOpB; rw [decide_eq_true (by omega), decide_eq_true (by omega)]; rfl] at HO
  have HL := hidden (fun u => lines_any u)
  have HR := hidden (fun u => lineRow_at hk u)
  have hix := fun u => index_line hk u
  obtain ⟨l, hl⟩ : ∃ l, linL.getD k noLn = l := ⟨_, rfl⟩
  rw [hl] at HR ⊢
  obtain ⟨rn, hrn⟩ : ∃ rn, w.heap.size = rn := ⟨_, rfl⟩
  obtain ⟨wb, hwb⟩ : ∃ wb, w.alloc (.cells #[.string ⟨#[]⟩, .int .i64 0, .int .u32 0, .int .u32 0, .int .u32 0, .int .i64 0, .int .u32 0, .int .i64 0, .int .i64 0, .bool false, .int .i64 0, .bool false] 108) = wb := ⟨_, rfl⟩
  have hRb : Blk wb rn row0 108 := by rw [← hwb, ← hrn]; exact Blk.new w _ _
  have hBb : Below w.heap.size w wb := by rw [← hwb]; exact below_new w _
  have HRB := hidden hRb
  have HBB := hidden hBb
  have hle : w.heap.size ≤ rn := by omega
  have HLE := hidden hle
  have e1 : (k : Int) + 1 - 1 = (k : Int) := by omega
  clear hRb hBb hle
  go_enter Try.func60, Try.ntmps60
  go_wp2_with (first | (go_at_call 69; refine (HO.out _).mono ?_; rintro e w1 ⟨rfl, hww⟩; rw [hww]; clear hww w1) | (go_at_call 70; refine (HL.out _).mono ?_; rintro e w1 ⟨rfl, hb1⟩; have HB1 := hidden hb1; clear hb1) | (go_at_call 71; refine (HR.out _).mono ?_; rintro e w2 ⟨rfl, hb2⟩; have HB2 := hidden hb2; clear hb2) | (refine wpList_storeRow (l := l) (s := shOf l.form) rfl rfl rfl rn rfl rfl ((HRB.out.later HB1.out).later HB2.out) ?_; rintro w5 hk5 hb5; have HK5 := hidden hk5; have HB5 := hidden hb5; clear hk5 hb5))
  have hb1 := HBB.out.trans (HB1.out.mono HBB.out.size)
  have hb2 := hb1.trans (HB2.out.mono hb1.size)
  exact bodyPost_ret (results_cell_row rfl _ _ rn 108 (rowL l) (0, 0) _ rfl HK5.out Try.underlying108 rfl sizeRow) rfl ⟨rfl, HB5.out w.heap.size w hb2 HLE.out⟩
/-- The kind of an Op. -/
def kindP (op : Int) : Int := if isOpB op = true then (linL.getD (op - 1).toNat noLn).kind else 0
theorem insKind_any (op : Int) (w : World) : Calls Try.prog 34 #[.int .i64 op] w fun e w' => e = .returned (.int .i64 (kindP op)) ∧ Below w.heap.size w w' := by
  unfold kindP
  cases h : isOpB op with
  | false =>
    rw [if_neg (by decide)]
    have HN := hidden (fun u => rowOf_no op h u)
    have hf : ∀ u, (Instr.field 108 (.agg row0) 1).run Try.prog u = .ok (.int .i64 0) u := fun u => by kernel_rfl
    go_enter Try.func34, Try.ntmps34
    go_wp2_with (go_at_call 60; refine (HN.out _).mono ?_; rintro e w1 ⟨rfl, hb1⟩; have HB1 := hidden hb1; clear hb1)
    go_ret
    exact ⟨rfl, HB1.out⟩
  | true =>
    rw [if_pos rfl]
    obtain ⟨k, rfl⟩ : ∃ k : Nat, op = (k : Int) + 1 := ⟨(op - 1).toNat, by unfold isOpB at h; simp only [Bool.and_eq_true, decide_eq_true_eq] at h; omega⟩
    have hk : k < 69 := by unfold isOpB at h; simp only [Bool.and_eq_true, decide_eq_true_eq] at h; omega
    have e1 : ((k : Int) + 1 - 1).toNat = k := by omega
    rw [e1]
    have HY := hidden (fun u => rowOf_yes hk u)
    obtain ⟨l, hl⟩ : ∃ l, linL.getD k noLn = l := ⟨_, rfl⟩
    rw [hl] at HY ⊢
    have hf : ∀ u, (Instr.field 108 (.agg (rowL l)) 1).run Try.prog u = .ok (.int .i64 l.kind) u := fun u => by kernel_rfl
    clear h e1
    go_enter Try.func34, Try.ntmps34
    go_wp2_with (go_at_call 60; refine (HY.out _).mono ?_; rintro e w1 ⟨rfl, hb1⟩; have HB1 := hidden hb1; clear hb1)
    go_ret
    exact ⟨rfl, HB1.out⟩
theorem kinds_all : (List.range 69).all (fun k => (linL.getD k noLn).kind == (if k < 47 then (linL.getD k noLn).kind else if k < 54 then 4 else if k < 59 then 5 else 2) && (decide (47 ≤ k) || ((linL.getD k noLn).kind != 4 && (linL.getD k noLn).kind != 5))) = true := by kernel_rfl
theorem kind_at {k : Nat} (hk : k < 69) : ((47 ≤ k ∧ k < 54) → (linL.getD k noLn).kind = 4) ∧ ((54 ≤ k ∧ k < 59) → (linL.getD k noLn).kind = 5) ∧ ((k < 47 ∨ 59 ≤ k) → (linL.getD k noLn).kind ≠ 4 ∧ (linL.getD k noLn).kind ≠ 5) := by
  have h := List.all_eq_true.1 kinds_all k (List.mem_range.2 hk)
  simp only [Bool.and_eq_true, beq_iff_eq, Bool.or_eq_true, decide_eq_true_eq, bne_iff_ne] at h
  obtain ⟨h1, h2⟩ := h
  refine ⟨fun h => ?_, fun h => ?_, fun h => ?_⟩
  · rw [if_neg (by omega), if_pos (by omega)] at h1; exact h1
  · rw [if_neg (by omega), if_neg (by omega), if_pos (by omega)] at h1; exact h1
  · rcases h with h | h
    · rcases h2 with h2 | h2
      · omega
      · exact h2
    · rw [if_neg (by omega), if_neg (by omega), if_neg (by omega)] at h1
      rw [h1]
      exact ⟨by decide, by decide⟩
theorem kindP_reads {op : Int} (h : 48 ≤ op ∧ op ≤ 54) : kindP op = 4 := by
  unfold kindP
  rw [if_pos (by unfold isOpB; rw [decide_eq_true (by omega), decide_eq_true (by omega)]; rfl)]
  exact (kind_at (by omega)).1 (by omega)
theorem kindP_writes {op : Int} (h : 55 ≤ op ∧ op ≤ 59) : kindP op = 5 := by
  unfold kindP
  rw [if_pos (by unfold isOpB; rw [decide_eq_true (by omega), decide_eq_true (by omega)]; rfl)]
  exact (kind_at (by omega)).2.1 (by omega)
theorem kindP_else {op : Int} (h : op < 48 ∨ 59 < op) : kindP op ≠ 4 ∧ kindP op ≠ 5 := by
  unfold kindP
  cases hb : isOpB op with
  | false =>
    rw [if_neg (by decide)]
    exact ⟨by decide, by decide⟩
  | true =>
    rw [if_pos rfl]
    unfold isOpB at hb
    simp only [Bool.and_eq_true, decide_eq_true_eq] at hb
    exact (kind_at (k := (op - 1).toNat) (by omega)).2.2 (by omega)
end Go.Proofs.Ytkpcajmphhdmiaa
namespace Go.Proofs.Ytkpcajmphhdmiaa
open Go.ChangeShapes Go.WideShapes Go.ChangeAt Go.RowKit
set_option linter.unusedVariables false
/-- A page. -/
structure P5 where
  at_ : Nat
  perm : Int
  b : List UInt8
  watched : Bool
def nop5 : P5 := ⟨0, 0, [], false⟩
structure P5At (w : World) (b o : Nat) (p : P5) : Prop where
  c0 : w.cell? ⟨b, o, none⟩ = some (.int .u32 (p.at_ : Int))
  c1 : w.cell? ⟨b, o + 1, none⟩ = some (.int .i64 p.perm)
  cb : ∀ i, i < 256 → w.cell? ⟨b, o + 2 + i, none⟩ = some (.int .u8 ((p.b.getD i 0).toNat : Int))
  cw : w.cell? ⟨b, o + 258, none⟩ = some (.bool p.watched)
  la : p.at_ < 4294967296
def Ps5 (w : World) (ao : Option Addr) (l : List P5) : Prop := l = [] ∨ ∃ b off, ao = some ⟨b, off, none⟩ ∧ b < w.heap.size ∧ ∀ j, j < l.length → P5At w b (off + j * 259) (l.getD j nop5)
theorem Ps5.at {w : World} {ao : Option Addr} {l : List P5} (h : Ps5 w ao l) {k : Nat} (hk : k < l.length) : ∃ b off, ao = some ⟨b, off, none⟩ ∧ b < w.heap.size ∧ ∀ j, j < l.length → P5At w b (off + j * 259) (l.getD j nop5) := by
  rcases h with h | h
  · rw [h] at hk; simp at hk
  · exact h
/-- Where a page stands: its length, if nowhere. -/
def find5 (l : List P5) (p : Nat) : Nat := l.findIdx fun x => x.at_ == p
def find5I (l : List P5) (p : Nat) : Int := if find5 l p < l.length then (find5 l p : Int) else -1
theorem find5_here {l : List P5} {p k : Nat} (hk : k < l.length) (hn : ∀ a, a < k → (l.getD a nop5).at_ ≠ p) (he : (l.getD k nop5).at_ = p) : find5 l p = k := by
  unfold find5
  rw [List.findIdx_eq hk]
  refine ⟨?_, fun j hj => ?_⟩
  · simpa [List.getD_eq_getElem?_getD, hk] using he
  · have := hn j hj
    have hj2 : j < l.length := Nat.lt_trans hj hk
    simpa [List.getD_eq_getElem?_getD, hj2] using this
theorem find5_none {l : List P5} {p : Nat} (hn : ∀ a, a < l.length → (l.getD a nop5).at_ ≠ p) : ¬ find5 l p < l.length := by
  unfold find5
  rw [List.findIdx_lt_length]
  rintro ⟨x, hx, he⟩
  obtain ⟨j, hj, rfl⟩ := List.getElem_of_mem hx
  have := hn j hj
  simp [List.getD_eq_getElem?_getD, hj] at this
  simp at he
  exact this he
theorem find5_at {l : List P5} {p : Nat} (h : find5 l p < l.length) : (l.getD (find5 l p) nop5).at_ = p := by
  have h2 := eq_of_beq (List.findIdx_getElem (xs := l) (p := fun x : P5 => x.at_ == p) (w := h))
  rw [List.getD_eq_getElem?_getD, List.getElem?_eq_getElem h]
  exact h2
set_option maxRecDepth 20000 in
theorem page5_any (a : Nat) (ha : a < 4294967296) (w : World) : Calls Try.prog 59 #[.int .u32 (a : Int)] w fun e w' => e = .returned (.int .u32 ((a / 256 * 256 : Nat) : Int)) ∧ w' = w := by
  have e0 : ((a : Int) - (a : Int) % 256) % 4294967296 = ((a / 256 * 256 : Nat) : Int) := by omega
  go_enter Try.func59, Try.ntmps59
  go_wp2
  go_ret
  exact ⟨ret_int (by omega), rfl⟩
set_option maxRecDepth 20000 in
set_option maxHeartbeats 8000000 in
theorem find_any (w : World) (m : Nat) (ao : Option Addr) (cap a : Nat) (l : List P5) (h : Ps5 w ao l) (h1 : w.cell? ⟨m, 1, none⟩ = some (.slice ao l.length cap)) (hmax : l.length ≤ 1000) (ha : a < 4294967296) : Calls Try.prog 58 #[.pointer (some ⟨m, 0, none⟩), .int .u32 (a : Int)] w fun e w' => e = .returned (.int .i64 (find5I l (a / 256 * 256))) ∧ w' = w := by
  have H := hidden h
  obtain ⟨p, hp⟩ : ∃ p, a / 256 * 256 = p := ⟨_, rfl⟩
  have C : Hid (Calls Try.prog 59 #[.int .u32 (a : Int)] w fun e w' => e = .returned (.int .u32 (p : Int)) ∧ w' = w) := by rw [← hp]; exact page5_any a ha w
  rw [hp]
  have hp2 : p < 4294967296 := by omega
  clear h hp
  go_enter Try.func58, Try.ntmps58
  go_wp2_with (first | (go_at_call 59; refine (Hid.out C).mono ?_; rintro e w4 ⟨rfl, hww⟩; rw [hww]; clear hww w4))
  go_loopw [6] (fun x6 wr => ∃ k : Nat, k ≤ l.length ∧ x6 = .int .i64 (k : Int) ∧ wr = w ∧ ∀ j, j < k → (l.getD j nop5).at_ ≠ p) (fun x6 _ => l.length - (intOf x6).toNat)
  case atStart => exact ⟨0, by omega, rfl, rfl, by omega⟩
  case round =>
    obtain ⟨k, hk, rfl, rfl, hno⟩ := hrel
    have HN := hidden hno
    clear hno
    by_cases hkl : k < l.length
    · obtain ⟨b, off, rfl, hlt, hc⟩ := (Hid.out H).at hkl
      obtain ⟨s, hs⟩ : ∃ s, s = l.getD k nop5 := ⟨_, rfl⟩
      have hat := hc k hkl
      rw [← hs] at hat
      have c0 := hat.c0
      have la := hat.la
      have HS := hidden hs
      have hkl2 : (k : Int) < (l.length : Int) := by omega
      clear hc hs hat
      by_cases z : s.at_ = p
      · have y : (s.at_ : Int) = (p : Int) := by omega
        have HR := hidden (find5_here hkl (Hid.out HN) (by rw [← Hid.out HS]; exact z))
        go_wp2
        go_ret
        refine ⟨?_, rfl⟩
        have e1 := Hid.out HR
        unfold find5I
        rw [e1, if_pos hkl]
        rfl
      · have y : ¬ (s.at_ : Int) = (p : Int) := by omega
        go_wp2
        go_roundw
        case rel =>
          refine ⟨k + 1, by omega, by first | rfl | simp, by first | rfl | trivial, fun j hj => ?_⟩
          rcases Nat.lt_succ_iff_lt_or_eq.1 hj with h | h
          · exact Hid.out HN j h
          · subst h; rw [← Hid.out HS]; exact z
        case measure => simp [intOf]; omega
    · have hkl2 : ¬ (k : Int) < (l.length : Int) := by omega
      have hkk : k = l.length := by omega
      have HR := hidden (find5_none (l := l) (p := p) (by rw [← hkk]; exact Hid.out HN))
      clear hkk
      go_wp2
      go_ret
      refine ⟨?_, rfl⟩
      have e1 := Hid.out HR
      unfold find5I
      rw [if_neg e1]
      rfl
theorem find5I_yes {l : List P5} {p : Nat} (h : find5 l p < l.length) : find5I l p = (find5 l p : Int) := if_pos h
theorem find5I_no {l : List P5} {p : Nat} (h : ¬ find5 l p < l.length) : find5I l p = -1 := if_neg h
/-- What the page of a place allows: 0 where there is none. -/
def perm5 (l : List P5) (p : Nat) : Int := if find5 l p < l.length then (l.getD (find5 l p) nop5).perm else 0
set_option maxRecDepth 20000 in
theorem perm5_any (w : World) (m : Nat) (ao : Option Addr) (cap a : Nat) (l : List P5) (h : Ps5 w ao l) (h1 : w.cell? ⟨m, 1, none⟩ = some (.slice ao l.length cap)) (hmax : l.length ≤ 1000) (ha : a < 4294967296) : Calls Try.prog 36 #[.pointer (some ⟨m, 0, none⟩), .int .u32 (a : Int)] w fun e w' => e = .returned (.int .i64 (perm5 l (a / 256 * 256))) ∧ w' = w := by
  have C := hidden (find_any w m ao cap a l h h1 hmax ha)
  obtain ⟨p, hp⟩ : ∃ p, a / 256 * 256 = p := ⟨_, rfl⟩
  rw [hp] at C ⊢
  unfold perm5
  by_cases hf : find5 l p < l.length
  · rw [find5I_yes hf] at C
    rw [if_pos hf]
    obtain ⟨k, hk⟩ : ∃ k, find5 l p = k := ⟨_, rfl⟩
    rw [hk] at C hf ⊢
    obtain ⟨b, off, rfl, hlt, hc⟩ := h.at hf
    have c1 := (hc k hf).c1
    generalize (l.getD k nop5).perm = pm at c1 ⊢
    have hk0 : (0 : Int) ≤ (k : Int) := by omega
    clear hp hk h hc
    go_enter Try.func36, Try.ntmps36
    go_wp2_with (first | (go_at_call 58; refine (Hid.out C).mono ?_; rintro e w4 ⟨rfl, hww⟩; rw [hww]; clear hww w4))
    go_ret
    exact ⟨rfl, rfl⟩
  · rw [find5I_no hf] at C
    rw [if_neg hf]
    clear hp h hf
    go_enter Try.func36, Try.ntmps36
    go_wp2_with (first | (go_at_call 58; refine (Hid.out C).mono ?_; rintro e w4 ⟨rfl, hww⟩; rw [hww]; clear hww w4))
    go_ret
    exact ⟨rfl, rfl⟩
/-- The byte at a place: 0 where there is no page. -/
def peek5 (l : List P5) (a : Nat) : UInt8 := if find5 l (a / 256 * 256) < l.length then (l.getD (find5 l (a / 256 * 256)) nop5).b.getD (a % 256) 0 else 0
set_option maxRecDepth 20000 in
theorem peek5_any (w : World) (m : Nat) (ao : Option Addr) (cap a : Nat) (l : List P5) (h : Ps5 w ao l) (h1 : w.cell? ⟨m, 1, none⟩ = some (.slice ao l.length cap)) (hmax : l.length ≤ 1000) (ha : a < 4294967296) : Calls Try.prog 41 #[.pointer (some ⟨m, 0, none⟩), .int .u32 (a : Int)] w fun e w' => e = .returned (.int .u8 ((peek5 l a).toNat : Int)) ∧ w' = w := by
  have C := hidden (find_any w m ao cap a l h h1 hmax ha)
  unfold peek5
  obtain ⟨p, hp⟩ : ∃ p, a / 256 * 256 = p := ⟨_, rfl⟩
  rw [hp] at C ⊢
  by_cases hf : find5 l p < l.length
  · rw [find5I_yes hf] at C
    rw [if_pos hf]
    obtain ⟨k, hk⟩ : ∃ k, find5 l p = k := ⟨_, rfl⟩
    rw [hk] at C hf ⊢
    obtain ⟨b, off, rfl, hlt, hc⟩ := h.at hf
    have c1 := (hc k hf).cb (a % 256) (by omega)
    generalize (l.getD k nop5).b.getD (a % 256) 0 = pm at c1 ⊢
    have hpm : pm.toNat < 256 := pm.toNat_lt
    have hk0 : (0 : Int) ≤ (k : Int) := by omega
    obtain ⟨q, hq⟩ : ∃ q, a % 256 = q := ⟨_, rfl⟩
    rw [hq] at c1
    have hq2 : (a : Int) % 256 = (q : Int) := by omega
    have hq3 : q < 256 := by omega
    clear hp hk h hc hq
    go_enter Try.func41, Try.ntmps41
    go_wp2_with (first | (go_at_call 58; refine (Hid.out C).mono ?_; rintro e w4 ⟨rfl, hww⟩; rw [hww]; clear hww w4))
    go_ret
    exact ⟨rfl, rfl⟩
  · rw [find5I_no hf] at C
    rw [if_neg hf]
    clear hp h hf
    go_enter Try.func41, Try.ntmps41
    go_wp2_with (first | (go_at_call 58; refine (Hid.out C).mono ?_; rintro e w4 ⟨rfl, hww⟩; rw [hww]; clear hww w4))
    go_ret
    exact ⟨rfl, rfl⟩
end Go.Proofs.Ytkpcajmphhdmiaa
