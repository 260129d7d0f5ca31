/- ElfMany, walked. -/
import Derived.Test.YtjpmagekianpdaaSpoilt3
import Derived.Test.YtjpmagekianpdaaBy
namespace Go.Proofs.Ytjpmagekianpdaa
open Go.ChangeShapes Go.WideShapes Go.ChangeAt Go.RowKit
set_option linter.unusedVariables false
def sM (lb : List UInt8) (pm i : Nat) : Sg := ⟨4096 + 256 * i, lb, 256, (pm : Int)⟩
def segsM (lb : List UInt8) (pm : Nat) : Nat → List Sg
  | 0 => []
  | i + 1 => segsM lb pm i ++ [sM lb pm i]
theorem segsM_len (lb : List UInt8) (pm : Nat) : ∀ i, (segsM lb pm i).length = i
  | 0 => rfl
  | i + 1 => by rw [segsM, List.length_append, segsM_len lb pm i]; rfl
theorem segsM_snoc (lb : List UInt8) (pm i : Nat) : segsM lb pm (i + 1) = segsM lb pm i ++ [sM lb pm i] := rfl
theorem segsM_get (lb : List UInt8) (pm : Nat) : ∀ i j, j < i → (segsM lb pm i).getD j nosg = sM lb pm j
  | 0, j, h => by omega
  | i + 1, j, h => by
    rw [segsM, List.getD_eq_getElem?_getD]
    by_cases h1 : j < i
    · rw [List.getElem?_append_left (by rw [segsM_len]; exact h1), ← List.getD_eq_getElem?_getD]
      exact segsM_get lb pm i j h1
    · obtain rfl : j = i := by omega
      rw [List.getElem?_append_right (by rw [segsM_len]; exact Nat.le_refl _), segsM_len, Nat.sub_self]
      rfl
theorem sM_fit {lb : List UInt8} {pm i : Nat} (h : lb.length ≤ 200) (hi : i < 9) : Fit (sM lb pm i) := ⟨by show 4096 + 256 * i < _; omega, by show 256 < _; omega, by show lb.length ≤ _; omega⟩
theorem sM_ok {lb : List UInt8} {pm i : Nat} (h : lb.length ≤ 200) (hi : i < 9) (hp : pm ≤ 7) : okB (sM lb pm i) = true := by
  unfold okB fitsB sM
  simp only
  rw [decide_eq_true (show lb.length ≤ 256 by omega), decide_eq_true (show 4096 + 256 * i + 256 ≤ 2147483648 by omega), decide_eq_true (show (0 : Int) ≤ (pm : Int) by omega), decide_eq_true (show (pm : Int) ≤ 7 by omega)]
  rfl
theorem many_check {lb : List UInt8} {pm K : Nat} (h : lb.length ≤ 200) (h1 : 1 ≤ K) (h8 : K ≤ 8) (hp : pm ≤ 7) (hp2 : pm % 2 = 1) : checkE 4096 (segsM lb pm K) = 0 := by
  have hl := segsM_len lb pm K
  have ho : (segsM lb pm K).all okB = true := all_yes fun j hj => by rw [segsM_get lb pm K j (by omega)]; exact sM_ok h (by omega) hp
  have hv : overB (segsM lb pm K) = false := over_no fun a b hab ha => by
    rw [segsM_get lb pm K a (by omega), segsM_get lb pm K b (by omega)]
    unfold shareB lastPg sM
    simp only
    rw [decide_eq_false (show ¬ (4096 + 256 * a) / 256 ≤ (4096 + 256 * b + 256 - 1) / 256 by omega), Bool.false_and]
  have he : enterB 4096 (segsM lb pm K) = true := by
    unfold enterB
    rw [any_yes (j := 0) (by omega) (by
      rw [segsM_get lb pm K 0 (by omega)]
      unfold runsB sM
      simp only
      rw [decide_eq_true (show (pm : Int) % 2 = 1 by omega)]
      rfl)]
    rfl
  unfold checkE
  rw [if_neg (by omega), if_neg (by rw [ho]; simp), if_neg (by rw [hv]; simp), if_neg (by rw [he]; simp)]
theorem many_datas (lb : List UInt8) (pm : Nat) : ∀ K, (datasB (segsM lb pm K)).length = K * lb.length
  | 0 => by simp [segsM, datasB]
  | K + 1 => by
    rw [segsM, datasB_snoc, List.length_append, many_datas lb pm K, Nat.succ_mul]
    rfl
theorem many_big (lb : List UInt8) (pm : Nat) : checkE 4096 (segsM lb pm 9) = 2 := by
  unfold checkE
  rw [if_pos (by rw [segsM_len]; omega)]
section
variable {ρ : Operand → Value} {o : Oper}
theorem exec_mul256 {x : Operand} {n : Nat} (hop : o.op = .binOp .mul 3 (.const (.int .i64 256)) x 3) (hx : ρ (.const (.int .i64 256)) = .int .i64 256 ∧ ρ x = .int .i64 (n : Int)) (hn : n < 9) (w : World) : (execOp ρ o).run Try.prog w = .ok (.value (.int .i64 ((256 * n : Nat) : Int))) w := by
  have e : IntKind.i64.wrap (256 * (n : Int)) = 256 * (n : Int) := by rw [IntKind.wrap_i64]; omega
  unfold execOp
  rw [hop]
  simp [hx.1, hx.2, go_sem, e]
theorem exec_add4096 {x : Operand} {n : Nat} (hop : o.op = .binOp .add 3 (.const (.int .i64 4096)) x 3) (hx : ρ (.const (.int .i64 4096)) = .int .i64 4096 ∧ ρ x = .int .i64 ((256 * n : Nat) : Int)) (hn : n < 9) (w : World) : (execOp ρ o).run Try.prog w = .ok (.value (.int .i64 ((4096 + 256 * n : Nat) : Int))) w := by
  have e : IntKind.i64.wrap (4096 + 256 * (n : Int)) = 4096 + 256 * (n : Int) := by rw [IntKind.wrap_i64]; omega
  unfold execOp
  rw [hop]
  simp [hx.1, hx.2, go_sem, e]
theorem exec_or1 {x : Operand} {p pm : Nat} (hop : o.op = .binOp .or 3 (.const (.int .i64 1)) x 3) (hx : ρ (.const (.int .i64 1)) = .int .i64 1 ∧ ρ x = .int .i64 (p : Int)) (hp : bits .or .i64 1 (p : Int) = (pm : Int)) (w : World) : (execOp ρ o).run Try.prog w = .ok (.value (.int .i64 (pm : Int))) w := by
  unfold execOp
  rw [hop]
  simp [hx.1, hx.2, go_sem, hp]
end
theorem or_small (p : Nat) (h : p < 8) : ∃ pm : Nat, pm ≤ 7 ∧ pm % 2 = 1 ∧ bits .or .i64 1 (p : Int) = (pm : Int) := by
  rcases (show p = 0 ∨ p = 1 ∨ p = 2 ∨ p = 3 ∨ p = 4 ∨ p = 5 ∨ p = 6 ∨ p = 7 by omega) with rfl | rfl | rfl | rfl | rfl | rfl | rfl | rfl
  · exact ⟨1, by decide, by decide, by decide⟩
  · exact ⟨1, by decide, by decide, by decide⟩
  · exact ⟨3, by decide, by decide, by decide⟩
  · exact ⟨3, by decide, by decide, by decide⟩
  · exact ⟨5, by decide, by decide, by decide⟩
  · exact ⟨5, by decide, by decide, by decide⟩
  · exact ⟨7, by decide, by decide, by decide⟩
  · exact ⟨7, by decide, by decide, by decide⟩
/-- Only the row v may have turned, and what it has it has still. -/
structure RM (base : Nat) (v : Value) (u x : World) : Prop where
  grown : u.grownBy x v.ownBlock
  keep : ∀ l, OutS u base v l → OutS x base v l
theorem RM.blk {base : Nat} {v : Value} {u x : World} (h : RM base v u x) {k : Nat} {cs : Array Value} {T : TypeId} (hk : Blk u k cs T) (hne : some k ≠ v.ownBlock) : Blk x k cs T := (h.grown.block k hk.lt hne).trans hk
theorem grown_refl (u : World) (e : Option Nat) : u.grownBy u e := ⟨rfl, rfl, rfl, Nat.le_refl _, fun _ _ _ => rfl⟩
theorem grown_of {u x : World} (h : Below u.heap.size u x) (e : Option Nat) : u.grownBy x e := ⟨h.os, h.tape, h.output, h.size, fun k hk _ => h.block k hk⟩
theorem grown_trans {u x y : World} {e : Option Nat} (h : u.grownBy x e) (k : x.grownBy y e) : u.grownBy y e := ⟨k.os.trans h.os, k.tape.trans h.tape, k.output.trans h.output, Nat.le_trans h.size k.size, fun i hi hn => (k.block i (Nat.lt_of_lt_of_le hi h.size) hn).trans (h.block i hi hn)⟩
theorem later_rm (base : Nat) (v : Value) : Later (RM base v) := ⟨fun w => ⟨grown_refl w _, fun _ h => h⟩, fun _ _ _ h k => ⟨grown_trans h.grown k.grown, fun l hl => k.keep l (h.keep l hl)⟩, fun w => ⟨grown_of ((Below.refl _ w).drew) _, fun _ h => h⟩⟩
theorem rm_below (base : Nat) (v : Value) {u x : World} (h : Below u.heap.size u x) : RM base v u x := ⟨grown_of h _, fun _ hl => OutS.later hl h⟩
theorem rm_of (base : Nat) (v : Value) : ∀ j u x, (if j = 13 then RM base v u x else Below u.heap.size u x) → RM base v u x := by
  intro j u x h
  by_cases hj : j = 13
  · rw [if_pos hj] at h; exact h
  · rw [if_neg hj] at h; exact rm_below base v h
theorem below_if {j base : Nat} {v : Value} {u x : World} (hj : j ≠ 13) (h : Below u.heap.size u x) : if j = 13 then RM base v u x else Below u.heap.size u x := by rw [if_neg hj]; exact h
theorem bel_rm {w wr w3 : World} {v : Value} {l : List Sg} (hb : Below w.heap.size w wr) (hR : RM w.heap.size v wr w3) (ho : OutS wr w.heap.size v l) : Below w.heap.size w w3 := hb.trans ((Below.refl _ wr).grown hR.grown hb.size fun k hk => (ho.lt k hk).1)
theorem outs_shape {w : World} {base : Nat} {v : Value} {l : List Sg} (h : OutS w base v l) : ∃ ao cap, v = .slice ao l.length cap := by
  rcases h.2 with ⟨rfl, h0⟩ | ⟨g, cap, cur, rfl, _⟩
  · exact ⟨none, 0, by rw [h0]⟩
  · exact ⟨_, _, rfl⟩
theorem outs_set {w : World} {base nf : Nat} {v x : Value} {l : List Sg} {a b : Value} (h : OutS w base v l) (hb : Blk w nf #[a, b] 26) : OutS (w.setCell ⟨nf, 1, none⟩ x) base v l := by
  refine ⟨h.1, ?_⟩
  rcases h.2 with h | ⟨g, cap, cur, h1, h2, h3, h4⟩
  · exact .inl h
  · refine .inr ⟨g, cap, cur, h1, h2, ?_, h4⟩
    have hne : g ≠ nf := by
      rintro rfl
      have := hb.symm.trans h3
      simp at this
    exact (Below.heap_setCell _ _ _ _ hne).trans h3
theorem run_moreK {w : World} {base : Nat} {v : Value} {l : List Sg} {ty : TypeId} {q : Nat} {s : Sg} (h : OutS w base v l) (hb : base ≤ w.heap.size) (hs : Blk w q #[.int .u32 (s.at_ : Int), .string ⟨s.data.toArray⟩, .int .u32 (s.size : Int), .int .i64 s.perm] 43) (hlen : l.length ≤ 1000) :
    ∃ v' w', (Builtin.append_ #[24, 24] ty #[v, .slice (some ⟨q, 0, none⟩) 1 1]).run Try.prog w = .ok v' w' ∧ OutS w' base v' (l ++ [s]) ∧ RM base v w w' := by
  obtain ⟨i0, hi, hz0, hz1, hz2⟩ := info_parts info43
  have hc2 : ∀ j u, (segCells [s])[j]? = some u → w.cell? ((⟨q, 0, none⟩ : Addr).add j) = some u := by
    intro j u hu
    rw [Addr.add_lit, Nat.zero_add]
    exact hs.cell (by simpa [segCells] using hu)
  obtain ⟨v', w', hr, h1, h2, _, _⟩ := run_append_own_at (P := Try.prog) w base 24 ty 43 i0 _ 4 40 Try.underlying24 hi hz0 hz1 hz2 rfl (by decide) v l.length (segCells l) h ⟨q, 0, none⟩ 1 1 (segCells [s]) (by rw [segCells_len]; rfl) hc2 (segCells_one _) (by unfold maxLen; omega) (by omega) hb
  refine ⟨v', w', hr, ?_, h2, fun l' hl' => ?_⟩
  · rw [← segCells_append] at h1
    unfold OutS
    rw [List.length_append]
    exact h1
  · rcases h.2 with ⟨rfl, h0⟩ | ⟨g, cap, cur, rfl, hbg, hg, hnc, hcm, hcs, htake⟩
    · refine ⟨hl'.1, ?_⟩
      rcases hl'.2 with hl | ⟨g, cap, cur, e, _⟩
      · exact .inl hl
      · simp at e
    · by_cases hroom : l.length + 1 ≤ cap
      · have hr2 := run_append_room (P := Try.prog) w 24 ty 43 i0 Try.underlying24 hi g l.length cap cur hg ⟨q, 0, none⟩ 1 1 (segCells [s]) (by rw [segCells_len, hz1]; rfl) hc2 (segCells_one _) hroom (by rw [segCells_len, hz1, hcs]; simp; omega)
        rw [hr2] at hr
        cases hr
        refine ⟨hl'.1, ?_⟩
        rcases hl'.2 with hl | ⟨g', cap', cur', e, hb', hg', hn', hm', hs', ht'⟩
        · exact .inl hl
        · simp only [Value.slice.injEq, Option.some.injEq, Addr.mk.injEq, and_true] at e
          obtain ⟨rfl, hll, rfl⟩ := e
          have hcc := hg.symm.trans hg'
          simp only [Option.some.injEq, Obj.cells.injEq, and_true] at hcc
          subst hcc
          have hcl : cur.toList.length = cap * 4 := by rw [Array.length_toList]; exact hcs
          refine .inr ⟨g, cap, _, by rw [hll], hb', setRow_heap w g cur _ 43 _ hg, hn', hm', ?_, ?_⟩
          · simp only [List.size_toArray, List.length_append, List.length_take, List.length_drop, Array.length_toList, segCells_len, hz1]
            rw [hcs]
            simp
            omega
          · rw [hz1, ← ht', hll, List.append_assoc, List.take_append_of_le_length (by rw [List.length_take, hcl]; omega), List.take_take, Nat.min_self]
      · have hr2 := run_append_grow (P := Try.prog) w 24 ty 43 i0 _ Try.underlying24 hi hz0 ⟨g, 0, none⟩ l.length cap (segCells l) (by rw [segCells_len, hz1]) (h.cells (g := g) rfl) ⟨q, 0, none⟩ 1 1 (segCells [s]) (by rw [segCells_len, hz1]; rfl) hc2 (by omega) (by omega) (growslice_fits (by omega) (by rw [hz2]; omega))
        rw [hr2] at hr
        cases hr
        exact OutS.later hl' ((Below.refl _ _).drew.alloc (by simp) _)
/-- What the slots of the region hold, whatever the order. -/
def phiMn (nf i cap0 p8 pm base : Nat) (perm : Int) (bo : Option Addr) (lb : List UInt8) (v : Value) : Nat → Value → World → Prop
  | 0, x, _ => x = .pointer (some ⟨nf, 1, none⟩)
  | 1, x, _ => x = v
  | 2, x, _ => x = .int .i64 (i : Int)
  | 3, x, _ => x = .int .i64 ((256 * i : Nat) : Int)
  | 4, x, _ => x = .int .i64 ((4096 + 256 * i : Nat) : Int)
  | 5, x, _ => x = .int .u32 ((4096 + 256 * i : Nat) : Int)
  | 6, x, _ => x = .slice bo lb.length cap0
  | 7, x, _ => x = .string ⟨lb.toArray⟩
  | 8, x, _ => x = .int .i64 perm
  | 9, x, _ => x = .int .i64 (p8 : Int)
  | 10, x, _ => x = .int .i64 (pm : Int)
  | 11, x, _ => x = .agg #[.int .u32 ((4096 + 256 * i : Nat) : Int), .string ⟨lb.toArray⟩, .int .u32 256, .int .i64 (pm : Int)]
  | 12, x, w => ∃ q, x = .slice (some ⟨q, 0, none⟩) 1 1 ∧ some q ≠ v.ownBlock ∧ Blk w q #[.int .u32 ((4096 + 256 * i : Nat) : Int), .string ⟨lb.toArray⟩, .int .u32 256, .int .i64 (pm : Int)] 43
  | 13, x, w => OutS w base x (segsM lb pm (i + 1))
  | 14, x, _ => x = .pointer (some ⟨nf, 1, none⟩)
  | _ + 15, _, _ => True
theorem phiMn_mono (nf i cap0 p8 pm base : Nat) (perm : Int) (bo : Option Addr) (lb : List UInt8) (v : Value) : ∀ i' j x w w', phiMn nf i cap0 p8 pm base perm bo lb v i' x w → (if j = 13 then RM base v w w' else Below w.heap.size w w') → i' ≠ j → phiMn nf i cap0 p8 pm base perm bo lb v i' x w'
  | 0, _, _, _, _, h, _, _ => h
  | 1, _, _, _, _, h, _, _ => h
  | 2, _, _, _, _, h, _, _ => h
  | 3, _, _, _, _, h, _, _ => h
  | 4, _, _, _, _, h, _, _ => h
  | 5, _, _, _, _, h, _, _ => h
  | 6, _, _, _, _, h, _, _ => h
  | 7, _, _, _, _, h, _, _ => h
  | 8, _, _, _, _, h, _, _ => h
  | 9, _, _, _, _, h, _, _ => h
  | 10, _, _, _, _, h, _, _ => h
  | 11, _, _, _, _, h, _, _ => h
  | 12, j, x, w, w', h, hr, _ => by
    obtain ⟨q, e, h1, h2⟩ := h
    refine ⟨q, e, h1, ?_⟩
    by_cases hj : j = 13
    · rw [if_pos hj] at hr
      exact hr.blk h2 h1
    · rw [if_neg hj] at hr
      exact h2.later hr
  | 13, j, x, w, w', h, hr, hn => by
    rw [if_neg (fun e => hn e.symm)] at hr
    exact OutS.later h hr
  | 14, _, _, _, _, h, _, _ => h
  | _ + 15, _, _, _, _, _, _, _ => trivial
theorem list15b : ∀ xs : List Value, xs.length = 15 → ∃ x0 x1 x2 x3 x4 x5 x6 x7 x8 x9 x10 x11 x12 x13 x14, xs = [x0, x1, x2, x3, x4, x5, x6, x7, x8, x9, x10, x11, x12, x13, x14]
  | [x0, x1, x2, x3, x4, x5, x6, x7, x8, x9, x10, x11, x12, x13, x14], _ => ⟨_, _, _, _, _, _, _, _, _, _, _, _, _, _, _, rfl⟩
set_option maxRecDepth 20000 in
set_option maxHeartbeats 4000000 in
theorem many_walk (w : World) (bo : Option Addr) (lb : List UInt8) (cap0 : Nat) (nn perm : Int) (hr0 : Row w bo lb cap0) (hlb : lb.length ≤ 9223372036854775807) : Calls Try.prog 7 #[.int .i64 nn, .slice bo lb.length cap0, .int .i64 perm] w fun e w' => e = .returned (.bool true) ∧ Below w.heap.size w w' := by
  obtain ⟨q, hq9, hqE⟩ : ∃ q : Nat, q < 9 ∧ nn % 9 = (q : Int) := ⟨(nn % 9).toNat, by omega, by omega⟩
  obtain ⟨K, hK⟩ : ∃ K, K = 1 + q := ⟨_, rfl⟩
  have hKE : (1 : Int) + (q : Int) = (K : Int) := by omega
  have H18a : Hid (∀ w, Calls Try.prog 18 #[.int .i64 nn, .int .i64 9] w fun e w' => e = .returned (.int .i64 (q : Int)) ∧ w' = w) := by
    intro w
    have := place_any nn 9 (by omega) (by omega) w
    rw [hqE] at this
    exact this
  have A18 : True := trivial
  by_cases h2 : 200 < lb.length
  · have h22 : (200 : Int) < (lb.length : Int) := by omega
    clear hr0 hqE hK
    go_enter Try.func7, Try.ntmps7
    go_wp2_with (first | (go_at_call 18; with_reducible refine (Hid.out H18a _).mono ?_; rintro e w18 ⟨rfl, hww⟩; rw [hww]; clear hww w18) | (go_at_call 9; with_reducible refine (awake_any _).mono ?_; rintro e we ⟨rfl, hb⟩; have HE := hidden hb; clear hb))
    go_ret
    exact ⟨rfl, Hid.out HE⟩
  have h22 : ¬ (200 : Int) < (lb.length : Int) := by omega
  obtain ⟨p8, hp8, hpE⟩ : ∃ p : Nat, p < 8 ∧ perm % 8 = (p : Int) := ⟨(perm % 8).toNat, by omega, by omega⟩
  have H18b : Hid (∀ w, Calls Try.prog 18 #[.int .i64 perm, .int .i64 8] w fun e w' => e = .returned (.int .i64 (p8 : Int)) ∧ w' = w) := by
    intro w
    have := place_any perm 8 (by omega) (by omega) w
    rw [hpE] at this
    exact this
  obtain ⟨pm, hpm7, hpm2, hor⟩ := or_small p8 hp8
  have HOR := hidden hor
  have HROW := hidden hr0
  have hK9 : K ≤ 9 := by omega
  have hK1 : 1 ≤ K := by omega
  have HF0 := hidden (Blk.new w #[.int .u32 4096, .slice none 0 0] 26)
  have HB0 := hidden (below_new w (.cells #[.int .u32 4096, .slice none 0 0] 26))
  clear hr0 hqE hK hpE hor
  go_enter Try.func7, Try.ntmps7
  go_wp2_with (go_at_call 18; with_reducible refine (Hid.out H18a _).mono ?_; rintro e w18 ⟨rfl, hww⟩; rw [hww]; clear hww w18)
  obtain ⟨base, hbase⟩ : ∃ base, base = w.heap.size := ⟨_, rfl⟩
  obtain ⟨nf, hnf⟩ : ∃ nf, nf = w.heap.size := ⟨_, rfl⟩
  have HBASE := hidden hbase
  have HNW : Hid (w.heap.size ≤ nf) := Nat.le_of_eq hnf.symm
  rw [← hnf] at HF0 ⊢
  clear hnf hbase
  go_loopw [9] (fun x9 wr => ∃ (i : Nat) (v : Value), i ≤ K ∧ x9 = .int .i64 (i : Int) ∧ Blk wr nf #[.int .u32 4096, v] 26 ∧ OutS wr base v (segsM lb pm i) ∧ Below w.heap.size w wr) (fun x9 _ => K - (intOf x9).toNat)
  case atStart => exact ⟨0, _, by omega, rfl, Hid.out HF0, World.ownsRow_nil _ _ 43 4, Hid.out HB0⟩
  case round =>
    obtain ⟨i, v, hi, rfl, hnfb, hov, hbel0⟩ := hrel
    have HNF := hidden hnfb
    have HOV := hidden hov
    by_cases hiK : i < K
    · have hiK2 : (i : Int) < (K : Int) := by omega
      have hi9 : i < 9 := by omega
      have hbw : base ≤ wr.heap.size := by rw [Hid.out HBASE]; exact hbel0.size
      have hne : some nf ≠ v.ownBlock := by
        intro e
        rcases hov.2 with ⟨rfl, _⟩ | ⟨g, cap, cur, rfl, _, h3, _⟩
        · simp [Value.ownBlock] at e
        · simp only [Value.ownBlock, Option.some.injEq] at e
          subst e
          have := hnfb.symm.trans h3
          simp at this
      have hbel := hbel0
      clear hnfb hov
      go_wp2
      have hbE := Hid.out HBASE
      subst hbE
      refine wp_region_by (later_rm w.heap.size v) (fun j u x => if j = 13 then RM w.heap.size v u x else Below u.heap.size u x) (rm_of w.heap.size v) 15 [27, 28, 29, 30, 31, 32, 33, 34, 35, 36, 37, 38, 39, 40, 41] (fun i' xs' w' => phiMn nf i cap0 p8 pm w.heap.size perm bo lb v i' (xs'.getD i' undef) w') (by kernel_rfl) (by kernel_rfl) rfl ?_ ?_ ?_
      · intro i' j v' xs w1 w2 hwt hnej hp hRj
        have hg' : (xs.set j v').getD i' undef = xs.getD i' undef := by rw [List.getD_eq_getElem?_getD, List.getElem?_set_ne (fun e => hnej e.symm), ← List.getD_eq_getElem?_getD]
        show phiMn nf i cap0 p8 pm w.heap.size perm bo lb v i' ((xs.set j v').getD i' undef) w2
        rw [hg']
        exact phiMn_mono nf i cap0 p8 pm w.heap.size perm bo lb v i' j _ w1 w2 hp hRj (fun e => hnej e)
      · intro j hj xs w3 hxs hR hpre
        obtain ⟨x0, x1, x2, x3, x4, x5, x6, x7, x8, x9, x10, x11, x12, x13, x14, rfl⟩ := list15b xs hxs
        have hnf3 : w3.cell? ⟨nf, 1, none⟩ = some v := (hR.blk (Hid.out HNF) hne).cell rfl
        have hb3 : Below w.heap.size w w3 := bel_rm hbel0 hR (Hid.out HOV)
        have hrow3 := (Hid.out HROW).later hb3
        have hnew3 : some w3.heap.size ≠ v.ownBlock := fun e => absurd ((Hid.out HOV).lt _ e.symm).2 (Nat.not_lt.2 hR.grown.size)
        rcases (show j = 0 ∨ j = 1 ∨ j = 2 ∨ j = 3 ∨ j = 4 ∨ j = 5 ∨ j = 6 ∨ j = 7 ∨ j = 8 ∨ j = 9 ∨ j = 10 ∨ j = 11 ∨ j = 12 ∨ j = 13 ∨ j = 14 by omega) with rfl | rfl | rfl | rfl | rfl | rfl | rfl | rfl | rfl | rfl | rfl | rfl | rfl | rfl | rfl
        · exact wpOp_run (.pointer (some ⟨nf, 1, none⟩)) rfl (by kernel_rfl) (by kernel_rfl) ⟨_, by kernel_rfl, rfl, below_if (by decide) (Below.refl _ _)⟩
        · have e0 : x0 = .pointer (some ⟨nf, 1, none⟩) := hpre 0 (by kernel_rfl)
          subst e0
          exact wpOp_run (v) rfl (by kernel_rfl) (exec_load 24 rfl (by kernel_rfl) w3 (load24 hnf3)) ⟨_, by kernel_rfl, rfl, below_if (by decide) (Below.refl _ _)⟩
        · exact wpOp_run (.int .i64 (i : Int)) rfl (by kernel_rfl) (exec_move rfl (by kernel_rfl) w3) ⟨_, by kernel_rfl, rfl, below_if (by decide) (Below.refl _ _)⟩
        · have e2 : x2 = .int .i64 (i : Int) := hpre 2 (by kernel_rfl)
          subst e2
          exact wpOp_run (.int .i64 ((256 * i : Nat) : Int)) rfl (by kernel_rfl) (exec_mul256 rfl ⟨by kernel_rfl, by kernel_rfl⟩ hi9 w3) ⟨_, by kernel_rfl, rfl, below_if (by decide) (Below.refl _ _)⟩
        · have e3 : x3 = .int .i64 ((256 * i : Nat) : Int) := hpre 3 (by kernel_rfl)
          subst e3
          exact wpOp_run (.int .i64 ((4096 + 256 * i : Nat) : Int)) rfl (by kernel_rfl) (exec_add4096 rfl ⟨by kernel_rfl, by kernel_rfl⟩ hi9 w3) ⟨_, by kernel_rfl, rfl, below_if (by decide) (Below.refl _ _)⟩
        · have e4 : x4 = .int .i64 ((4096 + 256 * i : Nat) : Int) := hpre 4 (by kernel_rfl)
          subst e4
          exact wpOp_run (.int .u32 ((4096 + 256 * i : Nat) : Int)) rfl (by kernel_rfl) (exec_conv23 rfl (by kernel_rfl) (by omega) w3) ⟨_, by kernel_rfl, rfl, below_if (by decide) (Below.refl _ _)⟩
        · exact wpOp_run (.slice bo lb.length cap0) rfl (by kernel_rfl) (exec_move rfl (by kernel_rfl) w3) ⟨_, by kernel_rfl, rfl, below_if (by decide) (Below.refl _ _)⟩
        · have e6 : x6 = .slice bo lb.length cap0 := hpre 6 (by kernel_rfl)
          subst e6
          exact wpOp_run (.string ⟨lb.toArray⟩) rfl (by kernel_rfl) (exec_str (c := cap0) lb rfl (by kernel_rfl) w3 hrow3.lies) ⟨_, by kernel_rfl, rfl, below_if (by decide) (Below.refl _ _)⟩
        · exact wpOp_run (.int .i64 perm) rfl (by kernel_rfl) (exec_move rfl (by kernel_rfl) w3) ⟨_, by kernel_rfl, rfl, below_if (by decide) (Below.refl _ _)⟩
        · have e8 : x8 = .int .i64 perm := hpre 8 (by kernel_rfl)
          subst e8
          refine wpOp_callR (R := fun u w4 => u = .int .i64 (p8 : Int) ∧ Below w3.heap.size w3 w4) 18 #[.int .i64 perm, .int .i64 8] rfl (by kernel_rfl) (by kernel_rfl) ((Hid.out H18b w3).mono fun e w4 ⟨he, hb⟩ => ⟨_, he, rfl, by rw [hb]; exact Below.refl _ _⟩) ?_
          rintro u w4 ⟨hu, hb4⟩
          exact ⟨_, by kernel_rfl, hu, below_if (by decide) hb4⟩
        · have e9 : x9 = .int .i64 (p8 : Int) := hpre 9 (by kernel_rfl)
          subst e9
          exact wpOp_run (.int .i64 (pm : Int)) rfl (by kernel_rfl) (exec_or1 rfl ⟨by kernel_rfl, by kernel_rfl⟩ (Hid.out HOR) w3) ⟨_, by kernel_rfl, rfl, below_if (by decide) (Below.refl _ _)⟩
        · have e5 : x5 = .int .u32 ((4096 + 256 * i : Nat) : Int) := hpre 5 (by kernel_rfl)
          subst e5
          have e7 : x7 = .string ⟨lb.toArray⟩ := hpre 7 (by kernel_rfl)
          subst e7
          have e10 : x10 = .int .i64 (pm : Int) := hpre 10 (by kernel_rfl)
          subst e10
          exact wpOp_run (.agg #[.int .u32 ((4096 + 256 * i : Nat) : Int), .string ⟨lb.toArray⟩, .int .u32 256, .int .i64 (pm : Int)]) rfl (by kernel_rfl) (exec_build 43 rfl (by kernel_rfl) w3 (build43 _ _ _ _ w3)) ⟨_, by kernel_rfl, rfl, below_if (by decide) (Below.refl _ _)⟩
        · have e11 : x11 = .agg #[.int .u32 ((4096 + 256 * i : Nat) : Int), .string ⟨lb.toArray⟩, .int .u32 256, .int .i64 (pm : Int)] := hpre 11 (by kernel_rfl)
          subst e11
          exact wpOp_run (.slice (some ⟨w3.heap.size, 0, none⟩) 1 1) rfl (by kernel_rfl) (exec_bslice rfl (by kernel_rfl) w3) ⟨_, by kernel_rfl, ⟨w3.heap.size, rfl, hnew3, Blk.new w3 _ 43⟩, below_if (by decide) (below_new w3 _)⟩
        · have f12 : ∃ q, x12 = .slice (some ⟨q, 0, none⟩) 1 1 ∧ some q ≠ v.ownBlock ∧ Blk w3 q #[.int .u32 ((4096 + 256 * i : Nat) : Int), .string ⟨lb.toArray⟩, .int .u32 256, .int .i64 (pm : Int)] 43 := hpre 12 (by kernel_rfl)
          obtain ⟨q12, e12, hne12, hq12⟩ := f12
          subst e12
          have e1 : x1 = v := hpre 1 (by kernel_rfl)
          subst e1
          obtain ⟨v5, w5, hrun, ho5, hrm⟩ := run_moreK (s := sM lb pm i) (hR.keep _ (Hid.out HOV)) (Nat.le_trans hbw hR.grown.size) hq12 (by rw [segsM_len]; omega)
          rw [← segsM_snoc] at ho5
          exact wpOp_run v5 rfl (by kernel_rfl) (exec_app rfl (by kernel_rfl) (by kernel_rfl) hrun) ⟨_, by kernel_rfl, ho5, hrm⟩
        · exact wpOp_run (.pointer (some ⟨nf, 1, none⟩)) rfl (by kernel_rfl) (by kernel_rfl) ⟨_, by kernel_rfl, rfl, below_if (by decide) (Below.refl _ _)⟩
      · intro xs w3 hxs hR hall
        obtain ⟨x0, x1, x2, x3, x4, x5, x6, x7, x8, x9, x10, x11, x12, x13, x14, rfl⟩ := list15b xs hxs
        have e0 : x0 = .pointer (some ⟨nf, 1, none⟩) := hall 0 (by omega)
        subst e0
        have e2 : x2 = .int .i64 (i : Int) := hall 2 (by omega)
        subst e2
        have e3 : x3 = .int .i64 ((256 * i : Nat) : Int) := hall 3 (by omega)
        subst e3
        have e4 : x4 = .int .i64 ((4096 + 256 * i : Nat) : Int) := hall 4 (by omega)
        subst e4
        have e5 : x5 = .int .u32 ((4096 + 256 * i : Nat) : Int) := hall 5 (by omega)
        subst e5
        have e6 : x6 = .slice bo lb.length cap0 := hall 6 (by omega)
        subst e6
        have e7 : x7 = .string ⟨lb.toArray⟩ := hall 7 (by omega)
        subst e7
        have e8 : x8 = .int .i64 perm := hall 8 (by omega)
        subst e8
        have e9 : x9 = .int .i64 (p8 : Int) := hall 9 (by omega)
        subst e9
        have e10 : x10 = .int .i64 (pm : Int) := hall 10 (by omega)
        subst e10
        have e11 : x11 = .agg #[.int .u32 ((4096 + 256 * i : Nat) : Int), .string ⟨lb.toArray⟩, .int .u32 256, .int .i64 (pm : Int)] := hall 11 (by omega)
        subst e11
        have f12 : ∃ q, x12 = .slice (some ⟨q, 0, none⟩) 1 1 ∧ some q ≠ v.ownBlock ∧ Blk w3 q #[.int .u32 ((4096 + 256 * i : Nat) : Int), .string ⟨lb.toArray⟩, .int .u32 256, .int .i64 (pm : Int)] 43 := hall 12 (by omega)
        obtain ⟨q12, e12, hne12, hq12⟩ := f12
        subst e12
        have e14 : x14 = .pointer (some ⟨nf, 1, none⟩) := hall 14 (by omega)
        subst e14
        have e1 : x1 = v := hall 1 (by omega)
        subst e1
        have hout : OutS w3 w.heap.size x13 (segsM lb pm (i + 1)) := hall 13 (by omega)
        obtain ⟨oa, oc, hx13⟩ := outs_shape hout
        rw [segsM_len] at hx13
        subst hx13
        have HR5 : Hid (Below w.heap.size w w3) := bel_rm hbel0 hR (Hid.out HOV)
        have hnf5 := hR.blk (Hid.out HNF) hne
        obtain ⟨f0, f1, hfl, hff⟩ := file_facts hnf5
        have HNF5 := hidden hnf5
        have HOUT := hidden hout
        clear hall hR hxs hout hnf5 hq12 hne12
        simp only [slotsOn, putAll, List.set_cons_succ, List.set_cons_zero, List.drop_succ_cons, List.drop_zero]
        have HU : Hid (OutS (w3.setCell ⟨nf, 1, none⟩ (.slice oa (i + 1) oc)) w.heap.size (.slice oa (i + 1) oc) (segsM lb pm (i + 1)) ∧ Blk (w3.setCell ⟨nf, 1, none⟩ (.slice oa (i + 1) oc)) nf #[.int .u32 4096, (.slice oa (i + 1) oc)] 26 ∧ Below w.heap.size w (w3.setCell ⟨nf, 1, none⟩ (.slice oa (i + 1) oc))) :=
          ⟨outs_set (Hid.out HOUT) (Hid.out HNF5), heap_setCell_same _ nf 1 _ _ _ (Hid.out HNF5), (Hid.out HR5).setCell (p := ⟨nf, 1, none⟩) (Hid.out HNW) _⟩
        go_wp2
        go_roundw
        case rel => first | exact ⟨i + 1, _, by omega, by simp, (Hid.out HU).2.1, (Hid.out HU).1, (Hid.out HU).2.2⟩ | ((repeat apply Exists.intro); first | exact ⟨⟨i + 1, _, by omega, by simp, (Hid.out HU).2.1, (Hid.out HU).1, (Hid.out HU).2.2⟩, rfl⟩ | exact ⟨⟨i + 1, _, by omega, by simp, (Hid.out HU).2.1, (Hid.out HU).1, (Hid.out HU).2.2⟩, rfl, rfl⟩)
        case measure => simp [intOf]; omega
    · have hiK2 : ¬ (i : Int) < (K : Int) := by omega
      obtain rfl : i = K := by omega
      have hfits : ∀ j, j < (segsM lb pm i).length → Fit ((segsM lb pm i).getD j nosg) := by
        intro j hj
        rw [segsM_len] at hj
        rw [segsM_get lb pm i j hj]
        exact sM_fit (by omega) (by omega)
      obtain ⟨oa, oc, hv, hsg, hol, hom⟩ := hov.segs hfits
      rw [segsM_len] at hv hol
      subst hv
      have HSG := hidden hsg
      have HBW := hidden hbel0
      obtain ⟨f0, f1, hfl, hff⟩ := file_facts hnfb
      have hmk := make_any wr oa oc 4096 (segsM lb pm i) hsg (by rw [segsM_len]; exact hol) hom (by omega)
      rw [segsM_len] at hmk
      by_cases h8 : 8 < i
      · have h82 : (8 : Int) < (i : Int) := by omega
        have h9 : i = 9 := by omega
        have H13 : Hid (Calls Try.prog 13 #[.agg #[.int .u32 4096, .slice oa i oc]] wr fun e w' => ∃ va vc, e = .returned (.tuple #[.slice va 0 vc, .int .i64 2]) ∧ True ∧ Below wr.heap.size wr w') := by
          have hm2 : makeE 4096 (segsM lb pm i) = ([], 2) := make_of (by rw [h9]; exact many_big lb pm) (by omega)
          rw [hm2] at hmk
          refine hmk.mono ?_
          rintro e w' ⟨v', a1, a2, a3⟩
          obtain ⟨va, vc, rfl, _⟩ := a2.row
          exact ⟨va, vc, a1, trivial, a3⟩
        clear hov hsg hbel0 hnfb hmk h9 hfits
        go_wp2_with (first | (go_at_call 13; with_reducible refine (Hid.out H13).mono ?_; rintro e wc ⟨va, vc, rfl, hr, hb⟩; have HC := hidden (bthen (Hid.out HBW) hb); have HNC := hidden (Blk.later (Hid.out HNF) hb); have HSC := hidden (Segs.later (Hid.out HSG) hb); have HRC := hidden hr; clear hb hr) | (go_at_call 9; with_reducible refine (awake_any _).mono ?_; rintro e wz ⟨rfl, hb⟩; have HZ := hidden (bthen (Hid.out HC) hb); clear hb))
        go_ret
        exact ⟨rfl, Hid.out HZ⟩
      · have h82 : ¬ (8 : Int) < (i : Int) := by omega
        have hck := many_check (lb := lb) (pm := pm) (K := i) (by omega) hK1 (by omega) hpm7 hpm2
        have hfl2 := fileB_len 4096 (segsM lb pm i)
        rw [segsM_len, many_datas] at hfl2
        obtain ⟨M, hM⟩ : ∃ M, M = i * lb.length := ⟨_, rfl⟩
        have hM2 : M ≤ 1800 := by
          rw [hM]
          exact Nat.le_trans (Nat.mul_le_mul (show i ≤ 9 by omega) (show lb.length ≤ 200 by omega)) (by omega)
        have hME : (i : Int) * (lb.length : Int) = (M : Int) := by rw [hM]; simp
        rw [← hM] at hfl2
        have hmk2 : makeE 4096 (segsM lb pm i) = (fileB 4096 (segsM lb pm i), 0) := by
          unfold makeE
          rw [if_neg (by rw [hck]; simp), if_neg (by omega)]
        have hpb := parse_back (e := 4096) (l := segsM lb pm i) (by omega) hck (by omega)
        obtain ⟨fl, hflE⟩ : ∃ fl, fl = fileB 4096 (segsM lb pm i) := ⟨_, rfl⟩
        rw [← hflE] at hfl2 hmk2 hpb
        obtain ⟨FL, hFL⟩ : ∃ FL, FL = fl.length := ⟨_, rfl⟩
        rw [← hFL] at hfl2
        have hFLE : (FL : Int) = 52 + 32 * (i : Int) + (M : Int) := by omega
        have H13 : Hid (Calls Try.prog 13 #[.agg #[.int .u32 4096, .slice oa i oc]] wr fun e w' => ∃ va vc, e = .returned (.tuple #[.slice va FL vc, .int .i64 0]) ∧ Row w' va fl vc ∧ Below wr.heap.size wr w') := by
          rw [hmk2] at hmk
          refine hmk.mono ?_
          rintro e w' ⟨v', a1, a2, a3⟩
          obtain ⟨va, vc, rfl, hr⟩ := a2.row
          rw [← hFL] at a1
          exact ⟨va, vc, a1, hr, a3⟩
        have H10 : Hid (∀ w1 va vc, Row w1 va fl vc → Calls Try.prog 10 #[.slice va FL vc] w1 fun e w' => ∃ pa pc, e = .returned (.tuple #[.agg #[.int .u32 4096, .slice pa i pc], .int .i64 0]) ∧ Segs w' pa (segsM lb pm i) ∧ i ≤ pc ∧ pc ≤ 9223372036854775807 ∧ Below w1.heap.size w1 w') := by
          intro w1 va vc hr
          have := parse_any w1 va fl vc hr (by omega)
          rw [hpb, ← hFL] at this
          simp only at this
          rw [segsM_len] at this
          exact this
        have H15 : Hid (∀ w1 pa pc, Segs w1 pa (segsM lb pm i) → Segs w1 oa (segsM lb pm i) → i ≤ pc → pc ≤ 9223372036854775807 → Calls Try.prog 15 #[.agg #[.int .u32 4096, .slice pa i pc], .agg #[.int .u32 4096, .slice oa i oc]] w1 fun e w' => e = .returned (.bool true) ∧ Below w1.heap.size w1 w') := by
          intro w1 pa pc a1 a2 a3 a4
          have := same_any w1 pa oa pc oc 4096 (segsM lb pm i) a1 a2 (by rw [segsM_len]; exact a3) (by rw [segsM_len]; exact hol) a4 hom
          rw [segsM_len] at this
          exact this
        clear hov hsg hbel0 hnfb hmk hfits hck hmk2 hpb hflE hFL hM hfl2
        go_wp2_with (first | (go_at_call 13; with_reducible refine (Hid.out H13).mono ?_; rintro e wc ⟨va, vc, rfl, hr, hb⟩; have HC := hidden (bthen (Hid.out HBW) hb); have HNC := hidden (Blk.later (Hid.out HNF) hb); have HSC := hidden (Segs.later (Hid.out HSG) hb); have HRC := hidden hr; clear hb hr) | (go_at_call 10; with_reducible refine (Hid.out H10 wc va vc (Hid.out HRC)).mono ?_; rintro e wd ⟨pa, pc, rfl, hsg, hpl, hpx, hb⟩; have hx := below_new wd (.cells #[.int .u32 4096, .slice pa i pc] 26); have HD := hidden (bthen (bthen (Hid.out HC) hb) hx); have hnd := Blk.later (Hid.out HNC) hb; have d0 : wd.cell? ⟨nf, 0, none⟩ = some (.int .u32 4096) := Blk.cell hnd rfl; have d1 : wd.cell? ⟨nf, 1, none⟩ = some (.slice oa i oc) := Blk.cell hnd rfl; have hdl := Blk.lt hnd; have H15b := hidden (Hid.out H15 _ pa pc (Segs.later hsg hx) (Segs.later (Segs.later (Hid.out HSC) hb) hx) hpl hpx); clear hb hx hsg hnd) | (go_at_call 15; with_reducible refine (Hid.out H15b).mono ?_; rintro e we ⟨rfl, hb⟩; have HE := hidden (bthen (Hid.out HD) hb); clear hb) | (go_at_call 9; with_reducible refine (awake_any _).mono ?_; rintro e wz ⟨rfl, hb⟩; have HZ := hidden (bthen (Hid.out HE) hb); clear hb))
        go_ret
        exact ⟨rfl, Hid.out HZ⟩
end Go.Proofs.Ytjpmagekianpdaa
