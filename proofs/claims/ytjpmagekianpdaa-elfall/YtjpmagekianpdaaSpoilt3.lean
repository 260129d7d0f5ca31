/- ElfSpoilt's way with two segments, walked. -/
import Derived.Test.YtjpmagekianpdaaSpoiltW
namespace Go.Proofs.Ytjpmagekianpdaa
open Go.ChangeShapes Go.WideShapes Go.ChangeAt Go.RowKit
set_option linter.unusedVariables false
section
variable {ρ : Operand → Value} {o : Oper}
theorem exec_mul4 {x : Operand} {n : Nat} (hop : o.op = .binOp .mul 3 (.const (.int .i64 4)) x 3) (hx : ρ (.const (.int .i64 4)) = .int .i64 4 ∧ ρ x = .int .i64 (n : Int)) (hn : n ≤ 500) (w : World) : (execOp ρ o).run Try.prog w = .ok (.value (.int .i64 ((4 * n : Nat) : Int))) w := by
  have e : IntKind.i64.wrap (4 * (n : Int)) = 4 * (n : Int) := by rw [IntKind.wrap_i64]; omega
  unfold execOp
  rw [hop]
  simp [hx.1, hx.2, go_sem, e]
theorem exec_conv23 {x : Operand} {n : Nat} (hop : o.op = .convert 3 23 x) (hx : ρ x = .int .i64 (n : Int)) (hn : n < 4294967296) (w : World) : (execOp ρ o).run Try.prog w = .ok (.value (.int .u32 (n : Int))) w := by
  have e : IntKind.u32.wrap (n : Int) = (n : Int) := by rw [IntKind.wrap_u32]; omega
  unfold execOp
  rw [hop]
  simp [hx, convert, run_underlying Try.underlying23, run_underlying Try.underlying3, go_sem, e]
theorem exec_rem {x y : Operand} {v n r : Nat} (hop : o.op = .binOp .rem 23 x y 23) (hx : ρ x = .int .u32 (v : Int)) (hy : ρ y = .int .u32 ((4 * n : Nat) : Int)) (hv : v < 4294967296) (h0 : 0 < n) (h5 : n ≤ 500) (hr : r = v % (4 * n)) (w : World) : (execOp ρ o).run Try.prog w = .ok (.value (.int .u32 (r : Int))) w := by
  have hz : ((4 * n : Nat) : Int) ≠ 0 := by omega
  have hm : v % (4 * n) < 4 * n := Nat.mod_lt _ (by omega)
  have e : (v : Int).tmod ((4 * n : Nat) : Int) = ((v % (4 * n) : Nat) : Int) := by
    rw [Int.tmod_eq_emod_of_nonneg (by omega)]
    omega
  subst hr
  generalize 4 * n = m at hy hz hm e ⊢
  have hz2 : ¬ m = 0 := by omega
  unfold execOp
  rw [hop]
  simp [hx, hy, hz2, go_sem]
  omega
theorem exec_add {y : Operand} {r : Nat} (hop : o.op = .binOp .add 23 (.const (.int .u32 65536)) y 23) (hx : ρ (.const (.int .u32 65536)) = .int .u32 65536) (hy : ρ y = .int .u32 (r : Int)) (hr : r < 4000) (w : World) : (execOp ρ o).run Try.prog w = .ok (.value (.int .u32 ((65536 + r : Nat) : Int))) w := by
  have e : (65536 + (r : Int)) % 4294967296 = 65536 + (r : Int) := by omega
  unfold execOp
  rw [hop]
  simp [hx, hy, go_sem, IntKind.wrap_u32, e]
theorem exec_bslice {x : Operand} {a : Int} {s : ByteArray} {c b : Int} (hop : o.op = .buildSlice 24 1 #[(0, x)]) (hx : ρ x = .agg #[.int .u32 a, .string s, .int .u32 c, .int .i64 b]) (w : World) : (execOp ρ o).run Try.prog w = .ok (.value (.slice (some ⟨w.heap.size, 0, none⟩) 1 1)) (w.alloc (.cells #[.int .u32 a, .string s, .int .u32 c, .int .i64 b] 43)) := by
  unfold execOp
  rw [hop]
  simp only [List.map_toArray, List.map_cons, List.map_nil, hx]
  kernel_rfl
theorem exec_app {x y : Operand} {vx vy v : Value} {w w' : World} (hop : o.op = .call { callee := .builtin .append, args := #[x, y], argTypes := #[24, 24] }) (hx : ρ x = vx) (hy : ρ y = vy) (hr : (Builtin.append_ #[24, 24] o.type #[vx, vy]).run Try.prog w = .ok v w') : (execOp ρ o).run Try.prog w = .ok (.value v) w' := by
  unfold execOp
  simp only [hop, resolve, invoke, builtin, Sem.run_bind, Sem.run_pure, Result.andThen_ok, List.map_toArray, List.map_cons, List.map_nil, hx, hy, hr]
end
theorem build43b (a : Int) (w : World) : (Instr.build 43 #[(0, .int .u32 a), (2, .int .u32 1), (3, .int .i64 4)]).run Try.prog w = .ok (.agg #[.int .u32 a, .string ⟨#[]⟩, .int .u32 1, .int .i64 4]) w := by kernel_rfl
theorem file_facts {w : World} {g : Nat} {a b : Value} (h : Blk w g #[a, b] 26) : w.cell? ⟨g, 0, none⟩ = some a ∧ w.cell? ⟨g, 1, none⟩ = some b ∧ g < w.heap.size ∧ ∀ j, w.frozen? ⟨g, j, none⟩ = false :=
  ⟨h.cell rfl, h.cell rfl, h.lt, fun j => frozen_of_row _ _ _ _ _ h⟩
theorem append2 {w : World} {g q : Nat} {s s2 : Sg} {ty : TypeId} (h1 : Blk w g #[.int .u32 (s.at_ : Int), .string ⟨s.data.toArray⟩, .int .u32 (s.size : Int), .int .i64 s.perm] 43) (h2 : Blk w q #[.int .u32 (s2.at_ : Int), .string ⟨s2.data.toArray⟩, .int .u32 (s2.size : Int), .int .i64 s2.perm] 43) (f1 : Fit s) (f2 : Fit s2) :
    ∃ c w', (Builtin.append_ #[24, 24] ty #[.slice (some ⟨g, 0, none⟩) 1 1, .slice (some ⟨q, 0, none⟩) 1 1]).run Try.prog w = .ok (.slice (some ⟨w.heap.size, 0, none⟩) 2 c) w' ∧ 2 ≤ c ∧ c ≤ 9223372036854775807 ∧ Segs w' (some ⟨w.heap.size, 0, none⟩) [s, s2] ∧ Below w.heap.size w w' := by
  obtain ⟨i0, hi, hz0, hz1, hz2⟩ := info_parts info43
  have hc1 : ∀ j v, (segCells [s])[j]? = some v → w.cell? ((⟨g, 0, none⟩ : Addr).add j) = some v := by
    intro j u hu
    rw [Addr.add_lit, Nat.zero_add]
    exact h1.cell (by simpa [segCells] using hu)
  have hc2 : ∀ j v, (segCells [s2])[j]? = some v → w.cell? ((⟨q, 0, none⟩ : Addr).add j) = some v := by
    intro j u hu
    rw [Addr.add_lit, Nat.zero_add]
    exact h2.cell (by simpa [segCells] using hu)
  have hr := run_append_grow (P := Try.prog) w 24 ty 43 i0 _ Try.underlying24 hi hz0 ⟨g, 0, none⟩ 1 1 (segCells [s]) (by rw [segCells_len, hz1]; rfl) hc1 ⟨q, 0, none⟩ 1 1 (segCells [s2]) (by rw [segCells_len, hz1]; rfl) hc2 (by omega) (by omega) (by rw [hz2]; decide)
  have hge := grownCap_ge w 2 1 43
  have hcm : grownCap w 2 1 43 ≤ maxLen := grownCap_le_maxLen w 2 1 43 (by unfold maxLen; omega)
  refine ⟨_, _, hr, hge, hcm, ?_, (Below.refl _ _).drew.alloc (by simp) _⟩
  refine .inr ⟨w.heap.size, 0, rfl, by simp, fun j hj => ?_⟩
  have hcell : ∀ k u, (segCells [s, s2])[k]? = some u → (w.drew.alloc (.cells ((segCells [s]).toArray ++ (segCells [s2]).toArray ++ Builtin.zeroCells (Value.agg #[.int .u32 0, .string ⟨#[]⟩, .int .u32 0, .int .i64 0]).cells (grownCap w (1 + 1) 1 43 - (1 + 1))) 43)).cell? ⟨w.heap.size, k, none⟩ = some u := by
    intro k u hu
    refine (World.cell?_alloc_mark w.drew _ 43 (0, 0) k).trans ?_
    have hk := (List.getElem?_eq_some_iff.1 hu).1
    rw [segCells_len] at hk
    rw [Array.getElem?_append_left (by simp [segCells_len] at hk ⊢; omega)]
    have e : (segCells [s]).toArray ++ (segCells [s2]).toArray = (segCells [s, s2]).toArray := by rw [show [s, s2] = [s] ++ [s2] from rfl, segCells_append]; simp
    rw [e, List.getElem?_toArray]
    exact hu
  have hat : ∀ i v, i < 4 → (#[Value.int .u32 (([s, s2].getD j nosg).at_ : Int), .string ⟨([s, s2].getD j nosg).data.toArray⟩, .int .u32 (([s, s2].getD j nosg).size : Int), .int .i64 ([s, s2].getD j nosg).perm] : Array Value)[i]? = some v → (w.drew.alloc (.cells ((segCells [s]).toArray ++ (segCells [s2]).toArray ++ Builtin.zeroCells (Value.agg #[.int .u32 0, .string ⟨#[]⟩, .int .u32 0, .int .i64 0]).cells (grownCap w (1 + 1) 1 43 - (1 + 1))) 43)).cell? ⟨w.heap.size, 0 + j * 4 + i, none⟩ = some v := by
    intro i v hi hv
    rw [Nat.zero_add]
    exact hcell _ _ (by rw [segCells_get [s, s2] j i hj hi]; exact hv)
  have hf : Fit ([s, s2].getD j nosg) := by
    match j, hj with
    | 0, _ => exact f1
    | 1, _ => exact f2
  exact ⟨hat 0 _ (by omega) rfl, hat 1 _ (by omega) rfl, hat 2 _ (by omega) rfl, hat 3 _ (by omega) rfl, hf⟩
/-- What the slots of the region hold, whatever the order. -/
def phiOv (nf g n cap v r Z : Nat) (ao : Option Addr) (d : List UInt8) : Nat → Value → World → Prop
  | 0, x, _ => x = .pointer (some ⟨nf, 1, none⟩)
  | 1, x, _ => x = .slice (some ⟨g, 0, none⟩) 1 1
  | 2, x, _ => x = .int .u32 (v : Int)
  | 3, x, _ => x = .slice ao n cap
  | 4, x, _ => x = .int .i64 (n : Int)
  | 5, x, _ => x = .int .i64 ((4 * n : Nat) : Int)
  | 6, x, _ => x = .int .u32 ((4 * n : Nat) : Int)
  | 7, x, _ => x = .int .u32 (r : Int)
  | 8, x, _ => x = .int .u32 ((65536 + r : Nat) : Int)
  | 9, x, _ => x = .agg #[.int .u32 ((65536 + r : Nat) : Int), .string ⟨#[]⟩, .int .u32 1, .int .i64 4]
  | 10, x, w => ∃ q, x = .slice (some ⟨q, 0, none⟩) 1 1 ∧ Blk w q #[.int .u32 ((65536 + r : Nat) : Int), .string ⟨#[]⟩, .int .u32 1, .int .i64 4] 43
  | 11, x, w => ∃ q c, x = .slice (some ⟨q, 0, none⟩) 2 c ∧ nf < q ∧ 2 ≤ c ∧ c ≤ 9223372036854775807 ∧ Segs w (some ⟨q, 0, none⟩) [⟨65536, d, Z, 7⟩, ⟨65536 + r, [], 1, 4⟩]
  | 12, x, _ => x = .pointer (some ⟨nf, 1, none⟩)
  | _ + 13, _, _ => True
theorem phiOv_mono (nf g n cap v r Z : Nat) (ao : Option Addr) (d : List UInt8) : ∀ i x w w', phiOv nf g n cap v r Z ao d i x w → Below w.heap.size w w' → phiOv nf g n cap v r Z ao d i x w'
  | 0, _, _, _, h, _ => h
  | 1, _, _, _, h, _ => h
  | 2, _, _, _, h, _ => h
  | 3, _, _, _, h, _ => h
  | 4, _, _, _, h, _ => h
  | 5, _, _, _, h, _ => h
  | 6, _, _, _, h, _ => h
  | 7, _, _, _, h, _ => h
  | 8, _, _, _, h, _ => h
  | 9, _, _, _, h, _ => h
  | 10, x, w, w', h, hbl => by obtain ⟨q, e, h1⟩ := h; exact ⟨q, e, h1.later hbl⟩
  | 11, x, w, w', h, hbl => by obtain ⟨q, c, e, h1, h2, h3, h4⟩ := h; exact ⟨q, c, e, h1, h2, h3, h4.later hbl⟩
  | 12, _, _, _, h, _ => h
  | _ + 13, _, _, _, _, _ => trivial
theorem list13b : ∀ xs : List Value, xs.length = 13 → ∃ x0 x1 x2 x3 x4 x5 x6 x7 x8 x9 x10 x11 x12, xs = [x0, x1, x2, x3, x4, x5, x6, x7, x8, x9, x10, x11, x12]
  | [x0, x1, x2, x3, x4, x5, x6, x7, x8, x9, x10, x11, x12], _ => ⟨_, _, _, _, _, _, _, _, _, _, _, _, _, rfl⟩
set_option maxRecDepth 20000 in
set_option maxHeartbeats 2000000 in
theorem spoilt3 (w : World) (ao : Option Addr) (n cap v : Nat) (how : Int) (vs : List Nat) (h : Wds w ao vs) (hvs : ∀ x ∈ vs, x < 4294967296) (hn : vs.length = n) (hn0 : 0 < n) (hn5 : n ≤ 500) (hcap : n ≤ cap) (hmax : cap ≤ 9223372036854775807) (hv : v < 4294967296) (hc : how % 7 = 3) : Calls Try.prog 6 #[.slice ao n cap, .int .i64 how, .int .u32 (v : Int)] w fun e w' => e = .returned (.bool true) ∧ Below w.heap.size w w' := by
  obtain ⟨d, hd⟩ : ∃ d, d = vs.flatMap put32 := ⟨_, rfl⟩
  obtain ⟨Z, hZ⟩ : ∃ Z, Z = 4 * n + 256 := ⟨_, rfl⟩
  have hdl : d.length = 4 * n := by rw [hd, flat32_len, hn]
  have H19 : Hid (Calls Try.prog 19 #[.slice ao n cap] w fun e w' => ∃ g, e = .returned (.agg #[.int .u32 65536, .slice (some ⟨g, 0, none⟩) 1 1]) ∧ w.heap.size ≤ g ∧ Blk w' g #[.int .u32 65536, .string ⟨d.toArray⟩, .int .u32 (Z : Int), .int .i64 7] 43 ∧ Below w.heap.size w w') := by
    have := file_any w ao n cap vs h hvs hn hn5 hcap hmax
    rw [← hd, hn, ← hZ] at this
    exact this
  have H18 : Hid (∀ w, Calls Try.prog 18 #[.int .i64 how, .int .i64 7] w fun e w' => e = .returned (.int .i64 3) ∧ w' = w) := by
    intro w
    have := place_any how 7 (by omega) (by omega) w
    rw [hc] at this
    exact this
  have l1 : ¬ (500 : Int) < (n : Int) := by omega
  have l2 : ¬ (n : Int) = 0 := by omega
  have l3 : ((n : Int) == 0) = false := beq_eq_false_iff_ne.2 l2
  obtain ⟨r, hrE⟩ : ∃ r : Nat, r = v % (4 * n) := ⟨_, rfl⟩
  have hr : r < 4 * n := by rw [hrE]; exact Nat.mod_lt _ (by omega)
  have hr2 : r < 4000 := by omega
  have HR := hidden hrE
  have hck : checkE 65536 [⟨65536, d, Z, 7⟩, ⟨65536 + r, [], 1, 4⟩] = 11 := by
    have o1 : okB ⟨65536, d, Z, 7⟩ = true := okS (by omega) (by omega) (by omega) (by omega) (by omega)
    have o2 : okB ⟨65536 + r, [], 1, 4⟩ = true := by
      unfold okB fitsB
      simp only
      rw [decide_eq_true (show 65536 + r + 1 ≤ 2147483648 by omega)]
      rfl
    have ov : overB [⟨65536, d, Z, 7⟩, ⟨65536 + r, [], 1, 4⟩] = true := over_yes (a := 1) (b := 0) (by omega) (by simp) (by
      show shareB ⟨65536 + r, [], 1, 4⟩ ⟨65536, d, Z, 7⟩ = true
      unfold shareB lastPg
      simp only
      rw [decide_eq_true (show (65536 + r) / 256 ≤ (65536 + Z - 1) / 256 by omega), decide_eq_true (show 65536 / 256 ≤ (65536 + r + 1 - 1) / 256 by omega)]
      rfl)
    unfold checkE
    rw [if_neg (by simp), if_neg (by simp [o1, o2]), if_pos ov]
  have H13 : Hid (∀ w1 q c, Segs w1 (some ⟨q, 0, none⟩) [⟨65536, d, Z, 7⟩, ⟨65536 + r, [], 1, 4⟩] → 2 ≤ c → c ≤ 9223372036854775807 → Calls Try.prog 13 #[.agg #[.int .u32 65536, .slice (some ⟨q, 0, none⟩) 2 c]] w1 fun e w' => ∃ va vc, e = .returned (.tuple #[.slice va 0 vc, .int .i64 11]) ∧ Below w1.heap.size w1 w') := by
    intro w1 q c hs a1 a2
    have := make_any w1 _ c 65536 [⟨65536, d, Z, 7⟩, ⟨65536 + r, [], 1, 4⟩] hs (by simpa using a1) a2 (by omega)
    rw [make_of hck (by omega)] at this
    refine this.mono ?_
    rintro e w' ⟨v', h1, h2, h3⟩
    obtain ⟨va, vc, rfl, _⟩ := h2.row
    exact ⟨va, vc, h1, h3⟩
  have H16 : Hid (∀ w1 q c, Segs w1 (some ⟨q, 0, none⟩) [⟨65536, d, Z, 7⟩, ⟨65536 + r, [], 1, 4⟩] → 2 ≤ c → c ≤ 9223372036854775807 → Calls Try.prog 16 #[.agg #[.int .u32 65536, .slice (some ⟨q, 0, none⟩) 2 c]] w1 fun e w' => e = .returned (.int .i64 11) ∧ Below w1.heap.size w1 w') := by
    intro w1 q c hs a1 a2
    have := check_any w1 _ c 65536 [⟨65536, d, Z, 7⟩, ⟨65536 + r, [], 1, 4⟩] hs (by simpa using a1) a2 (by omega)
    rw [hck] at this
    exact this
  have HFT1 : Hid (Fit ⟨65536, d, Z, 7⟩) := ⟨by show 65536 < _; omega, by show Z < _; omega, by show d.length ≤ _; omega⟩
  have HFT2 : Hid (Fit ⟨65536 + r, [], 1, 4⟩) := ⟨by show 65536 + r < _; omega, by show 1 < _; omega, by simp⟩
  clear hrE
  have HDL := hidden hdl
  have HZ := hidden hZ
  clear h hd hdl hc hn hvs
  clear hZ
  go_enter Try.func6, Try.ntmps6
  go_wp2_with (first | (go_at_call 19; with_reducible refine (Hid.out H19).mono ?_; rintro e wb ⟨g, rfl, hgw, hg, hb⟩; have HG := hidden hg; have HB := hidden hb; have HGW := hidden hgw; obtain ⟨y0, y1, y2, y3, hyl, hyf⟩ := cell_facts hg; clear hb hg hgw) | (go_at_call 18; with_reducible refine (Hid.out H18 _).mono ?_; rintro e w18 ⟨rfl, hww⟩; rw [hww]; clear hww w18))
  obtain ⟨nf, hnf⟩ : ∃ nf, nf = wb.heap.size := ⟨_, rfl⟩
  have HNF0 := Blk.new wb #[.int .u32 65536, .slice (some ⟨g, 0, none⟩) 1 1] 26
  have HG4 := hidden ((Hid.out HG).later (below_new wb (.cells #[.int .u32 65536, .slice (some ⟨g, 0, none⟩) 1 1] 26)))
  have HB4 := hidden (bthen (Hid.out HB) (below_new wb (.cells #[.int .u32 65536, .slice (some ⟨g, 0, none⟩) 1 1] 26)))
  have HNW : Hid (w.heap.size ≤ nf) := by rw [hnf]; exact (Hid.out HB).size
  rw [← hnf] at HNF0 ⊢
  have HNF := hidden HNF0
  clear HNF0 hnf y0 y1 y2 y3 hyl hyf
  refine wp_region_head later_below 13 [60, 61, 62, 63, 64, 65, 66, 67, 68, 69, 70, 71, 72] (phiOv nf g n cap v r Z ao d) (by kernel_rfl) (by kernel_rfl) rfl (phiOv_mono nf g n cap v r Z ao d) ?_ ?_
  · intro j hj xs w3 hxs hR hpre
    obtain ⟨x0, x1, x2, x3, x4, x5, x6, x7, x8, x9, x10, x11, x12, rfl⟩ := list13b xs hxs
    have hnf4 := (Hid.out HNF).later hR
    have hnf3 : w3.cell? ⟨nf, 1, none⟩ = some (.slice (some ⟨g, 0, none⟩) 1 1) := hnf4.cell rfl
    have hnlt := hnf4.lt
    have hg3 := (Hid.out HG4).later hR
    rcases (show j = 0 ∨ j = 1 ∨ j = 2 ∨ j = 3 ∨ j = 4 ∨ j = 5 ∨ j = 6 ∨ j = 7 ∨ j = 8 ∨ j = 9 ∨ j = 10 ∨ j = 11 ∨ j = 12 by omega) with rfl | rfl | rfl | rfl | rfl | rfl | rfl | rfl | rfl | rfl | rfl | rfl | rfl
    · exact wpOp_run (.pointer (some ⟨nf, 1, none⟩)) rfl (by kernel_rfl) (by kernel_rfl) ⟨_, by kernel_rfl, rfl, Below.refl _ _⟩
    · have e0 : x0 = .pointer (some ⟨nf, 1, none⟩) := hpre 0 (by kernel_rfl)
      subst e0
      exact wpOp_run (.slice (some ⟨g, 0, none⟩) 1 1) rfl (by kernel_rfl) (exec_load 24 rfl (by kernel_rfl) w3 (load24 hnf3)) ⟨_, by kernel_rfl, rfl, Below.refl _ _⟩
    · exact wpOp_run (.int .u32 (v : Int)) rfl (by kernel_rfl) (exec_move rfl (by kernel_rfl) w3) ⟨_, by kernel_rfl, rfl, Below.refl _ _⟩
    · exact wpOp_run (.slice ao n cap) rfl (by kernel_rfl) (exec_move rfl (by kernel_rfl) w3) ⟨_, by kernel_rfl, rfl, Below.refl _ _⟩
    · have e3 : x3 = .slice ao n cap := hpre 3 (by kernel_rfl)
      subst e3
      exact wpOp_run (.int .i64 (n : Int)) rfl (by kernel_rfl) (by kernel_rfl) ⟨_, by kernel_rfl, rfl, Below.refl _ _⟩
    · have e4 : x4 = .int .i64 (n : Int) := hpre 4 (by kernel_rfl)
      subst e4
      exact wpOp_run (.int .i64 ((4 * n : Nat) : Int)) rfl (by kernel_rfl) (exec_mul4 rfl ⟨by kernel_rfl, by kernel_rfl⟩ hn5 w3) ⟨_, by kernel_rfl, rfl, Below.refl _ _⟩
    · have e5 : x5 = .int .i64 ((4 * n : Nat) : Int) := hpre 5 (by kernel_rfl)
      subst e5
      exact wpOp_run (.int .u32 ((4 * n : Nat) : Int)) rfl (by kernel_rfl) (exec_conv23 rfl (by kernel_rfl) (by omega) w3) ⟨_, by kernel_rfl, rfl, Below.refl _ _⟩
    · have e2 : x2 = .int .u32 (v : Int) := hpre 2 (by kernel_rfl)
      subst e2
      have e6 : x6 = .int .u32 ((4 * n : Nat) : Int) := hpre 6 (by kernel_rfl)
      subst e6
      exact wpOp_run (.int .u32 (r : Int)) rfl (by kernel_rfl) (exec_rem rfl (by kernel_rfl) (by kernel_rfl) hv hn0 hn5 (Hid.out HR) w3) ⟨_, by kernel_rfl, rfl, Below.refl _ _⟩
    · have e7 : x7 = .int .u32 (r : Int) := hpre 7 (by kernel_rfl)
      subst e7
      exact wpOp_run (.int .u32 ((65536 + r : Nat) : Int)) rfl (by kernel_rfl) (exec_add rfl (by kernel_rfl) (by kernel_rfl) hr2 w3) ⟨_, by kernel_rfl, rfl, Below.refl _ _⟩
    · have e8 : x8 = .int .u32 ((65536 + r : Nat) : Int) := hpre 8 (by kernel_rfl)
      subst e8
      exact wpOp_run (.agg #[.int .u32 ((65536 + r : Nat) : Int), .string ⟨#[]⟩, .int .u32 1, .int .i64 4]) rfl (by kernel_rfl) (exec_build 43 rfl (by kernel_rfl) w3 (build43b _ w3)) ⟨_, by kernel_rfl, rfl, Below.refl _ _⟩
    · have e9 : x9 = .agg #[.int .u32 ((65536 + r : Nat) : Int), .string ⟨#[]⟩, .int .u32 1, .int .i64 4] := hpre 9 (by kernel_rfl)
      subst e9
      exact wpOp_run (.slice (some ⟨w3.heap.size, 0, none⟩) 1 1) rfl (by kernel_rfl) (exec_bslice rfl (by kernel_rfl) w3) ⟨_, by kernel_rfl, ⟨w3.heap.size, rfl, Blk.new w3 _ 43⟩, below_new w3 _⟩
    · have e1 : x1 = .slice (some ⟨g, 0, none⟩) 1 1 := hpre 1 (by kernel_rfl)
      subst e1
      have f10 : ∃ q, x10 = .slice (some ⟨q, 0, none⟩) 1 1 ∧ Blk w3 q #[.int .u32 ((65536 + r : Nat) : Int), .string ⟨#[]⟩, .int .u32 1, .int .i64 4] 43 := hpre 10 (by kernel_rfl)
      obtain ⟨q10, e10, hq10⟩ := f10
      subst e10
      obtain ⟨c, w5, hrun, hc1, hc2, hsg, hb5⟩ := append2 (s := ⟨65536, d, Z, 7⟩) (s2 := ⟨65536 + r, [], 1, 4⟩) hg3 hq10 (Hid.out HFT1) (Hid.out HFT2)
      exact wpOp_run (.slice (some ⟨w3.heap.size, 0, none⟩) 2 c) rfl (by kernel_rfl) (exec_app rfl (by kernel_rfl) (by kernel_rfl) hrun) ⟨_, by kernel_rfl, ⟨w3.heap.size, c, rfl, hnlt, hc1, hc2, hsg⟩, hb5⟩
    · exact wpOp_run (.pointer (some ⟨nf, 1, none⟩)) rfl (by kernel_rfl) (by kernel_rfl) ⟨_, by kernel_rfl, rfl, Below.refl _ _⟩
  · intro xs w3 hxs hR hall
    obtain ⟨x0, x1, x2, x3, x4, x5, x6, x7, x8, x9, x10, x11, x12, rfl⟩ := list13b xs hxs
    have e0 : x0 = .pointer (some ⟨nf, 1, none⟩) := hall 0 (by omega)
    subst e0
    have e1 : x1 = .slice (some ⟨g, 0, none⟩) 1 1 := hall 1 (by omega)
    subst e1
    have e2 : x2 = .int .u32 (v : Int) := hall 2 (by omega)
    subst e2
    have e3 : x3 = .slice ao n cap := hall 3 (by omega)
    subst e3
    have e4 : x4 = .int .i64 (n : Int) := hall 4 (by omega)
    subst e4
    have e5 : x5 = .int .i64 ((4 * n : Nat) : Int) := hall 5 (by omega)
    subst e5
    have e6 : x6 = .int .u32 ((4 * n : Nat) : Int) := hall 6 (by omega)
    subst e6
    have e7 : x7 = .int .u32 (r : Int) := hall 7 (by omega)
    subst e7
    have e8 : x8 = .int .u32 ((65536 + r : Nat) : Int) := hall 8 (by omega)
    subst e8
    have e9 : x9 = .agg #[.int .u32 ((65536 + r : Nat) : Int), .string ⟨#[]⟩, .int .u32 1, .int .i64 4] := hall 9 (by omega)
    subst e9
    have f10 : ∃ q, x10 = .slice (some ⟨q, 0, none⟩) 1 1 ∧ Blk w3 q #[.int .u32 ((65536 + r : Nat) : Int), .string ⟨#[]⟩, .int .u32 1, .int .i64 4] 43 := hall 10 (by omega)
    obtain ⟨q10, e10, hq10⟩ := f10
    subst e10
    have f11 : ∃ q c, x11 = .slice (some ⟨q, 0, none⟩) 2 c ∧ nf < q ∧ 2 ≤ c ∧ c ≤ 9223372036854775807 ∧ Segs w3 (some ⟨q, 0, none⟩) [⟨65536, d, Z, 7⟩, ⟨65536 + r, [], 1, 4⟩] := hall 11 (by omega)
    obtain ⟨q11, c11, e11, hn11, hc11, hm11, hs11⟩ := f11
    subst e11
    have e12 : x12 = .pointer (some ⟨nf, 1, none⟩) := hall 12 (by omega)
    subst e12
    have HR5 := hidden (bthen (Hid.out HB4) hR)
    have hnf5 := (Hid.out HNF).later hR
    obtain ⟨f0, f1, hfl, hff⟩ := file_facts hnf5
    have HNF5 := hidden hnf5
    have HS11 := hidden hs11
    have HN11 := hidden hn11
    have HC11 := hidden hc11
    have HM11 := hidden hm11
    clear hall hR hxs hs11 hn11 hc11 hm11 hnf5 hq10
    simp only [slotsOn, putAll, List.set_cons_succ, List.set_cons_zero, List.drop_succ_cons, List.drop_zero]
    have HU : Hid (Segs (w3.setCell ⟨nf, 1, none⟩ (.slice (some ⟨q11, 0, none⟩) 2 c11)) (some ⟨q11, 0, none⟩) [⟨65536, d, Z, 7⟩, ⟨65536 + r, [], 1, 4⟩] ∧ Blk (w3.setCell ⟨nf, 1, none⟩ (.slice (some ⟨q11, 0, none⟩) 2 c11)) nf #[.int .u32 65536, .slice (some ⟨q11, 0, none⟩) 2 c11] 26 ∧ Below w.heap.size w (w3.setCell ⟨nf, 1, none⟩ (.slice (some ⟨q11, 0, none⟩) 2 c11))) := by
      refine ⟨(Hid.out HS11).set (fun b off e _ => ?_), heap_setCell_same _ nf 1 _ _ _ (Hid.out HNF5), (Hid.out HR5).setCell (p := ⟨nf, 1, none⟩) (Hid.out HNW) _⟩
      have := Hid.out HN11
      simp only [Option.some.injEq, Addr.mk.injEq, and_true] at e
      omega
    go_wp2_with (first | (go_at_call 13; obtain ⟨hs, hf, hbu⟩ := Hid.out HU; with_reducible refine (Hid.out H13 _ _ _ hs (Hid.out HC11) (Hid.out HM11)).mono ?_; rintro e wc ⟨va, vc, rfl, hb⟩; have HC := hidden (bthen hbu hb); have HSC := hidden (Segs.later hs hb); have hfc := Blk.later hf hb; have z0 : wc.cell? ⟨nf, 0, none⟩ = some (.int .u32 65536) := Blk.cell hfc rfl; have z1 : wc.cell? ⟨nf, 1, none⟩ = some (.slice (some ⟨q11, 0, none⟩) 2 c11) := Blk.cell hfc rfl; have hzl := Blk.lt hfc; clear hb hs hf hbu hfc) | (go_at_call 16; with_reducible refine (Hid.out H16 _ _ _ (Hid.out HSC) (Hid.out HC11) (Hid.out HM11)).mono ?_; rintro e wd ⟨rfl, hb⟩; have HD := hidden (bthen (Hid.out HC) hb); clear hb) | (go_at_call 9; with_reducible refine (awake_any _).mono ?_; rintro e we ⟨rfl, hb⟩; have HE := hidden (bthen (Hid.out HD) hb); clear hb))
    go_ret
    exact ⟨rfl, Hid.out HE⟩
end Go.Proofs.Ytjpmagekianpdaa
