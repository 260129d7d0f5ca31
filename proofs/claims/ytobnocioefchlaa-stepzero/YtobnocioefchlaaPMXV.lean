/- Words that came in, opened. -/
import Derived.Test.YtobnocioefchlaaPMBJ
import Derived.Deep.Slices
import Derived.Test.YtobnocioefchlaaPMXW
namespace Go.Proofs.Ytobnocioefchlaa
open Go.ChangeShapes Go.WideShapes Go.ChangeAt Go.RowKit Go.Deep
set_option linter.unusedVariables false
def WdsA (w : World) (ao : Option Addr) (vs : List Nat) : Prop := vs = [] ∨ ∃ b off, ao = some ⟨b, off, none⟩ ∧ b < w.heap.size ∧ ∀ j, j < vs.length → w.cell? ⟨b, off + j, none⟩ = some (.int .u32 ((vs.getD j 0 : Nat) : Int))
theorem WdsA.later {w w' : World} {ao : Option Addr} {vs : List Nat} (h : WdsA w ao vs) (hb : Below w.heap.size w w') : WdsA w' ao vs := by
  rcases h with h | ⟨b, off, e, hlt, hc⟩
  · exact .inl h
  · exact .inr ⟨b, off, e, Nat.lt_of_lt_of_le hlt hb.size, fun j hj => (hb.cell (p := ⟨b, off + j, none⟩) hlt).trans (hc j hj)⟩
theorem WdsA.at {w : World} {ao : Option Addr} {vs : List Nat} (h : WdsA w ao vs) {k : Nat} (hk : k < vs.length) : ∃ b off, ao = some ⟨b, off, none⟩ ∧ b < w.heap.size ∧ ∀ j, j < vs.length → w.cell? ⟨b, off + j, none⟩ = some (.int .u32 ((vs.getD j 0 : Nat) : Int)) := by
  rcases h with h | h
  · rw [h] at hk; simp at hk
  · exact h
theorem open_words {H : Type} {enc : TypeId × Value → H} {w : World} {fuel : Nat} {held : Bool} {ao : Option Addr} {len cap : Nat} {x : DataW H × List MemPlace} {spare : Nat → Bool} (h : DataW.trod enc Try.prog w 0 spare held fuel 39 [.slice ao len cap] = some x) :
    ∃ vs : List Nat, vs.length = len ∧ WdsA w ao vs ∧ (∀ x ∈ vs, x < 4294967296) ∧ len ≤ cap ∧ cap ≤ 9223372036854775807 := by
  rcases open_ints Try.underlying39 Try.underlying23 (by kernel_rfl) h with ⟨hcs, _⟩ | ⟨a, l0, c0, zs, hcs, _, hl, hm, hz, _, hcell, hwz⟩
  · simp only [List.cons.injEq, and_true, Value.slice.injEq] at hcs
    obtain ⟨rfl, rfl, rfl⟩ := hcs
    exact ⟨[], rfl, .inl rfl, by simp, by omega, by omega⟩
  · simp only [List.cons.injEq, and_true, Value.slice.injEq] at hcs
    obtain ⟨rfl, rfl, rfl⟩ := hcs
    have hzl : len ≤ zs.length := by rw [hz]; split <;> omega
    obtain ⟨f, hf⟩ : ∃ f : Nat → Nat, ∀ i, i < len → zs.getD i 0 = (f i : Int) ∧ f i < 4294967296 := by
      refine choose_lt (p := fun i (v : Nat) => zs.getD i 0 = (v : Int) ∧ v < 4294967296) fun i hi => ?_
      refine wf_u32 (hwz _ ?_)
      rw [List.getD_eq_getElem?_getD, List.getElem?_eq_getElem (by omega), Option.getD_some]
      exact List.getElem_mem _
    have hlen : ((List.range len).map f).length = len := by simp
    have hm2 := hm
    simp only [maxLen] at hm2
    refine ⟨(List.range len).map f, hlen, ?_, ?_, hl, hm2⟩
    · by_cases h0 : len = 0
      · left
        subst h0
        rfl
      · right
        obtain ⟨b, off, spot⟩ := a
        have hc0 := hcell 0 (by omega)
        have hspot : spot = none := by simpa [Addr.add] using World.cell?_spot hc0
        subst hspot
        refine ⟨b, off, rfl, ?_, fun j hj => ?_⟩
        · have := World.block_lt_of_cell? _ _ hc0
          simpa [Addr.add_lit] using this
        · rw [hlen] at hj
          have h1 := hcell j (by omega)
          rw [Addr.add_lit] at h1
          rw [h1, (hf j hj).1]
          simp [List.getD_eq_getElem?_getD, hj]
    · intro y hy
      obtain ⟨i, hi, rfl⟩ := List.mem_map.1 hy
      exact (hf i (by simpa using hi)).2
end Go.Proofs.Ytobnocioefchlaa
namespace Go.Proofs.Ytobnocioefchlaa
open Go.ChangeShapes Go.WideShapes Go.ChangeAt Go.RowKit
set_option linter.unusedVariables false
theorem exec_made10 {ρ : Operand → Value} {o : Oper} {x y : Operand} (hop : o.op = .makeSlice 40 x y) (hx : ρ x = .int .i64 10) (hy : ρ y = .int .i64 10) (w : World) : (execOp ρ o).run Try.prog w = .ok (.value (.slice (some ⟨w.heap.size, 0, none⟩) 10 10)) (w.alloc (.cells (madeCells #[.int .u8 0] 10) 5)) := by
  unfold execOp
  simp only [hop, hx, hy, Sem.run_bind, Sem.run_pure]
  rw [show ((10 : Int)) = ((10 : Nat) : Int) from rfl, make45 10 (by omega) w]
  rfl
theorem row_made10 (w : World) : Row (w.alloc (.cells (madeCells #[.int .u8 0] 10) 5)) (some ⟨w.heap.size, 0, none⟩) (List.replicate 10 0) 10 := by
  rw [made_cells]
  exact row_new w (List.replicate 10 0) (by simp) (by simp)
def zrP1 (pcn W b1 : Nat) : Part4 := ⟨pcn, bytesL W, 7, false, some ⟨b1, 0, none⟩, 4⟩
def zrP2 (b2 : Nat) : Part4 := ⟨0, List.replicate 10 0, 6, false, some ⟨b2, 0, none⟩, 10⟩
theorem zr_pieces (w : World) (pcn W b1 b2 : Nat) (hp : pcn < 4294967296) (h1 : Row w (some ⟨b1, 0, none⟩) (bytesL W) 4) (h2 : Row w (some ⟨b2, 0, none⟩) (List.replicate 10 0) 10) : Pieces (w.alloc (.cells #[.int .u32 (pcn : Int), .slice (some ⟨b1, 0, none⟩) 4 4, .int .i64 7, .bool false, .int .u32 0, .slice (some ⟨b2, 0, none⟩) 10 10, .int .i64 6, .bool false] 44)) (some ⟨w.heap.size, 0, none⟩) [zrP1 pcn W b1, zrP2 b2] := by
  have hb := heap_alloc_new w (.cells #[.int .u32 (pcn : Int), .slice (some ⟨b1, 0, none⟩) 4 4, .int .i64 7, .bool false, .int .u32 0, .slice (some ⟨b2, 0, none⟩) 10 10, .int .i64 6, .bool false] 44)
  have q1 := h1.later ((Below.refl _ w).alloc (Nat.le_refl _) (.cells #[.int .u32 (pcn : Int), .slice (some ⟨b1, 0, none⟩) 4 4, .int .i64 7, .bool false, .int .u32 0, .slice (some ⟨b2, 0, none⟩) 10 10, .int .i64 6, .bool false] 44))
  have q2 := h2.later ((Below.refl _ w).alloc (Nat.le_refl _) (.cells #[.int .u32 (pcn : Int), .slice (some ⟨b1, 0, none⟩) 4 4, .int .i64 7, .bool false, .int .u32 0, .slice (some ⟨b2, 0, none⟩) 10 10, .int .i64 6, .bool false] 44))
  refine .inr ⟨w.heap.size, 0, rfl, (Array.getElem?_eq_some_iff.1 hb).1, fun j hj => ?_⟩
  rcases (show j = 0 ∨ j = 1 by simp at hj; omega) with rfl | rfl
  · exact ⟨by rw [cell_of_row _ _ _ _ _ _ hb]; rfl, by rw [cell_of_row _ _ _ _ _ _ hb]; rfl, by rw [cell_of_row _ _ _ _ _ _ hb]; rfl, by rw [cell_of_row _ _ _ _ _ _ hb]; rfl, q1, hp⟩
  · exact ⟨by rw [cell_of_row _ _ _ _ _ _ hb]; rfl, by rw [cell_of_row _ _ _ _ _ _ hb]; rfl, by rw [cell_of_row _ _ _ _ _ _ hb]; rfl, by rw [cell_of_row _ _ _ _ _ _ hb]; rfl, q2, by show 0 < _; omega⟩
theorem zr_memory (w : World) (pcn W b1 b2 : Nat) (hp : pcn < 4294967296) (h1 : Row w (some ⟨b1, 0, none⟩) (bytesL W) 4) (h2 : Row w (some ⟨b2, 0, none⟩) (List.replicate 10 0) 10) : Calls Try.prog 9 #[.slice (some ⟨w.heap.size, 0, none⟩) 2 2] (w.alloc (.cells #[.int .u32 (pcn : Int), .slice (some ⟨b1, 0, none⟩) 4 4, .int .i64 7, .bool false, .int .u32 0, .slice (some ⟨b2, 0, none⟩) 10 10, .int .i64 6, .bool false] 44)) fun e w' => ∃ s, e = .returned (.pointer (some ⟨s.mb, 0, none⟩)) ∧ Own w w' s ∧ s.abs = memOf [zrP1 pcn W b1, zrP2 b2] ∧ s.c ≤ 4800 := by
  have hm := memory_any _ _ 2 [zrP1 pcn W b1, zrP2 b2] (zr_pieces w pcn W b1 b2 hp h1 h2) (by simp) (by
    intro p hp
    simp only [List.mem_cons, List.mem_nil_iff, or_false] at hp
    rcases hp with rfl | rfl
    · show (bytesL W).length ≤ 600
      rw [bytesL_len]; omega
    · show (List.replicate 10 (0 : UInt8)).length ≤ 600
      simp)
  refine hm.mono fun e w' hx => ?_
  obtain ⟨s, he, ho, ha, _, _, _, hc⟩ := hx
  exact ⟨s, he, ⟨ho.mem, (below_new w _).trans (ho.below.mono (below_new w _).size), fun b hb => Nat.le_trans (below_new w _).size (ho.foot b hb)⟩, ha, hc⟩
theorem zr_step {s : MS} {v : SV} {pcn W b1 b2 : Nat} (hv : v.R.length = 32) (hsl : v.sl = false) (hpc : v.pc = (pcn : Int)) (h1 : 4096 ≤ pcn) (h2 : pcn < 4352) (h4 : pcn % 4 = 0) (ha : s.abs = memOf [zrP1 pcn W b1, zrP2 b2]) (hW : W < 4294967296) (hz : zrOp (insR W).op) : (∃ k b, stepP s v = stopO v k b ∧ zrK k) ∨ ∃ st, stepP s v = wentO st 0 ∧ st.R.length = 32 ∧ st.R.getD 0 0 = 0 ∧ st.pc = v.nx ∧ st.nx = (v.nx + 4) % 4294967296 ∧ st.sl = false := by
  have hf := fetch_page (s := s) (p := zrP1 pcn W b1) (W := W) (by
    rw [ha]
    refine two_else _ _ _ (fun j hj => ?_) ?_
    · have hj2 : j < 10 := hj
      show pageOf pcn ≠ pageOf (wrapAt 0 j)
      unfold pageOf wrapAt
      omega
    · show pageOf pcn ≠ pageOf 0
      unfold pageOf
      omega) (by show bytesL W = bytesOf [W]; unfold bytesOf; simp) (show bits .and .i64 ((7 : Int) % 8) 1 ≠ 0 by decide) h4 (by show pcn + 4 ≤ _; omega) hW
  have hf2 : fetchV s v.pc.toNat = ((W : Int), 0) := by
    rw [hpc, Int.toNat_natCast]
    exact hf
  rw [(stepP_at hf2 rfl).1]
  exact zr_ins s v hv hsl _ hz
/-- The world on the way: the state that came in. -/
structure ZB (W0 : World) (n : Nat) (v : SV) (wr : World) : Prop where
  bel : Below n W0 wr
  s0 : Blk wr n v.c 26
theorem ZB.later {W0 : World} {n : Nat} {v : SV} {wr w' : World} (h : ZB W0 n v wr) (hb : Below wr.heap.size wr w') : ZB W0 n v w' := ⟨h.bel.trans (hb.mono (Nat.le_of_lt h.s0.lt)), h.s0.later hb⟩
theorem ZB.step {W0 w4 w5 w6 : World} {n : Nat} {v : SV} {s s' : MS} (h : ZB W0 n v w4) (ho : Own w4 w5 s) (st : Step w5 s w6 s') : ZB W0 n v w6 := by
  have hb := (Step.below st (B := w4.heap.size) ho.below.size ho.foot).1
  exact h.later (ho.below.trans hb)
structure ZC (W0 : World) (n g : Nat) (v st : SV) (fc : Array Value) (wr : World) : Prop where
  zb : ZB W0 n v wr
  s1 : Blk wr g st.c 26
  f : Blk wr (g + 1) fc 32
theorem ZC.mk1 {W0 : World} {n g : Nat} {v st : SV} {fc : Array Value} {wr w' : World} (h : ZB W0 n v wr) (hg : wr.heap.size = g) (hb : Below wr.heap.size wr w') (h1 : Blk w' g st.c 26) (h2 : Blk w' (g + 1) fc 32) : ZC W0 n g v st fc w' := ⟨h.later hb, h1, h2⟩
theorem ZC.later {W0 : World} {n g : Nat} {v st : SV} {fc : Array Value} {wr w' : World} (h : ZC W0 n g v st fc wr) (hb : Below wr.heap.size wr w') : ZC W0 n g v st fc w' := ⟨h.zb.later hb, h.s1.later hb, h.f.later hb⟩
structure ZD (n g : Nat) (pcn : Int) (k : Int) (wr : World) : Prop where
  c0 : wr.cell? ⟨g + 1, 0, none⟩ = some (.int .i64 k)
  c1 : wr.cell? ⟨g + 1, 1, none⟩ = some (.int .u32 pcn)
  c3 : wr.cell? ⟨n, 34, none⟩ = some (.int .u32 pcn)
theorem ZC.stop {W0 : World} {n g : Nat} {v st : SV} {k b pcn : Int} {sl : Bool} {wr : World} (h : ZC W0 n g v st (faultC k pcn sl b) wr) (hv : v.R.length = 32) (hp : v.pc = pcn) : ZD n g pcn k wr := ⟨h.f.cell rfl, h.f.cell rfl, by rw [← hp]; exact h.zb.s0.cell (SV.get_pc hv)⟩
structure ZE (n g : Nat) (pcn : Int) (wr : World) : Prop where
  c0 : wr.cell? ⟨g, 0, none⟩ = some (.int .u32 0)
  c1 : wr.cell? ⟨g, 34, none⟩ = some (.int .u32 (pcn + 4))
  c2 : wr.cell? ⟨g, 35, none⟩ = some (.int .u32 (pcn + 4 + 4))
  c3 : wr.cell? ⟨g, 36, none⟩ = some (.bool false)
  c4 : wr.cell? ⟨n, 35, none⟩ = some (.int .u32 (pcn + 4))
theorem ZC.went {W0 : World} {n g : Nat} {v st : SV} {fc : Array Value} {pcn : Int} {wr : World} (h : ZC W0 n g v st fc wr) (hv : v.R.length = 32) (hnx : v.nx = pcn + 4) (hp : 0 ≤ pcn ∧ pcn < 4352) (hst : st.R.length = 32 ∧ st.R.getD 0 0 = 0 ∧ st.pc = v.nx ∧ st.nx = (v.nx + 4) % 4294967296 ∧ st.sl = false) : ZE n g pcn wr := by
  obtain ⟨l1, e0, e1, e2, e3⟩ := hst
  refine ⟨?_, ?_, ?_, ?_, ?_⟩
  · rw [← e0]; exact h.s1.cell (SV.getR l1 (by omega))
  · rw [← hnx, ← e1]; exact h.s1.cell (SV.get_pc l1)
  · rw [show pcn + 4 + 4 = (v.nx + 4) % 4294967296 by omega, ← e2]; exact h.s1.cell (SV.get_nx l1)
  · rw [← e3]; exact h.s1.cell (SV.get_sl l1)
  · rw [← hnx]; exact h.zb.s0.cell (SV.get_nx hv)
/-- The state that goes in. -/
def zrV (v : SV) (pcn : Nat) : SV := { v with R := v.R.set 28 0, pc := (pcn : Int), nx := (pcn : Int) + 4 }
theorem zrV_ok {v : SV} (h : v.ok) (pcn : Nat) (hp : pcn < 4352) : (zrV v pcn).ok := by
  have h2 := SV.ok_set h 28 0 (by omega) (by omega)
  exact ⟨h2.1, h2.2.1, h.2.2.1, h.2.2.2.1, by show 0 ≤ (pcn : Int) ∧ (pcn : Int) < 4294967296; omega, by show 0 ≤ (pcn : Int) + 4 ∧ (pcn : Int) + 4 < 4294967296; omega⟩
theorem zeroV_ok : SV.zero.ok := ⟨rfl, (show ∀ k, k < 32 → 0 ≤ (List.replicate 32 (0 : Int)).getD k 0 ∧ (List.replicate 32 (0 : Int)).getD k 0 < 4294967296 by decide), by decide, by decide, by decide, by decide⟩
/-- What the slots of the region hold, whatever the order. -/
def phiZr (n pcn : Nat) (vv : Int) : Nat → Value → World → Prop
  | 0, x, _ => x = .pointer (some ⟨n, 34, none⟩)
  | 1, x, _ => x = .int .u32 (pcn : Int)
  | 2, x, _ => x = .int .i64 vv
  | 3, x, w => ∃ W : Nat, x = .int .u32 (W : Int) ∧ W < 4294967296 ∧ zrOp (insR W).op
  | 4, x, w => ∃ W b1 : Nat, x = .slice (some ⟨b1, 0, none⟩) 4 4 ∧ Row w (some ⟨b1, 0, none⟩) (bytesL W) 4 ∧ W < 4294967296 ∧ zrOp (insR W).op
  | 5, x, w => ∃ W b1 : Nat, x = .agg #[.int .u32 (pcn : Int), .slice (some ⟨b1, 0, none⟩) 4 4, .int .i64 7, .bool false] ∧ Row w (some ⟨b1, 0, none⟩) (bytesL W) 4 ∧ W < 4294967296 ∧ zrOp (insR W).op
  | 6, x, w => ∃ b2 : Nat, x = .slice (some ⟨b2, 0, none⟩) 10 10 ∧ Row w (some ⟨b2, 0, none⟩) (List.replicate 10 0) 10
  | 7, x, w => ∃ b2 : Nat, x = .agg #[.int .u32 0, .slice (some ⟨b2, 0, none⟩) 10 10, .int .i64 6, .bool false] ∧ Row w (some ⟨b2, 0, none⟩) (List.replicate 10 0) 10
  | _ + 8, _, _ => True
theorem phiZr_mono (n pcn : Nat) (vv : Int) : ∀ i x w w', phiZr n pcn vv i x w → Below w.heap.size w w' → phiZr n pcn vv i x w'
  | 0, _, _, _, h, _ => h
  | 1, _, _, _, h, _ => h
  | 2, _, _, _, h, _ => h
  | 3, x, w, w', h, hb => h
  | 4, x, w, w', h, hb => by obtain ⟨W, b1, e, h1, h2⟩ := h; exact ⟨W, b1, e, h1.later hb, h2⟩
  | 5, x, w, w', h, hb => by obtain ⟨W, b1, e, h1, h2⟩ := h; exact ⟨W, b1, e, h1.later hb, h2⟩
  | 6, x, w, w', h, hb => by obtain ⟨b2, e, h1⟩ := h; exact ⟨b2, e, h1.later hb⟩
  | 7, x, w, w', h, hb => by obtain ⟨b2, e, h1⟩ := h; exact ⟨b2, e, h1.later hb⟩
  | _ + 8, _, _, _, _, _ => trivial
theorem listZr : ∀ xs : List Value, xs.length = 8 → ∃ x0 x1 x2 x3 x4 x5 x6 x7, xs = [x0, x1, x2, x3, x4, x5, x6, x7]
  | [x0, x1, x2, x3, x4, x5, x6, x7], _ => ⟨_, _, _, _, _, _, _, _, rfl⟩
end Go.Proofs.Ytobnocioefchlaa
namespace Go.Proofs.Ytobnocioefchlaa
open Go.ChangeShapes Go.WideShapes Go.ChangeAt Go.RowKit
set_option linter.unusedVariables false
set_option maxRecDepth 20000 in
set_option maxHeartbeats 2000000 in
theorem zero_a (vv : Int) (W0 : World) (ao : Option Addr) (len cap : Nat) (vs : List Nat) (hw : WdsA W0 ao vs) (hlen : vs.length = len) (hv : ∀ x ∈ vs, x < 4294967296) (hl : len ≤ 32) (pc : Nat) (hpc : pc < 4294967296) : Calls Try.prog 4 #[.int .i64 vv, .slice ao len cap, .int .u32 (pc : Int)] W0 fun e w' => e = .returned (.bool true) ∧ Below W0.heap.size W0 w' := by
  obtain ⟨n, hn⟩ : ∃ n, W0.heap.size = n := ⟨_, rfl⟩
  have HW := hidden hw
  have HLEN := hidden hlen
  have HV := hidden hv
  obtain ⟨pcn, hpcn, hp1, hp2, hp3⟩ : ∃ pcn : Nat, (pc : Int) % 64 * 4 + 4096 = (pcn : Int) ∧ pcn % 4 = 0 ∧ 4096 ≤ pcn ∧ pcn < 4352 := ⟨pc % 64 * 4 + 4096, by omega, by omega, by omega, by omega⟩
  have HPN := hidden (And.intro hp1 (And.intro hp2 hp3))
  have HPI : Hid (0 ≤ (pcn : Int) ∧ (pcn : Int) < 4352) := hidden ⟨by omega, by omega⟩
  have HAW := hidden awake11_any
  clear hw hlen hv hp1 hp2 hpc
  go_enter Try.func4, Try.ntmps4
  go_wp2_with (first | (refine wpList_allocV rfl rfl ?_; rintro w1 k1 s1 b1; rw [hn] at k1 s1 b1 ⊢; have K1 := hidden k1; have B1 := hidden b1; clear k1 s1 b1))
  go_loopw [8] (fun x8 wr => ∃ (i : Nat) (v : SV), i ≤ len ∧ x8 = .int .i64 (i : Int) ∧ Blk wr n v.c 26 ∧ v.ok ∧ v.sl = false ∧ Below n W0 wr) (fun x8 _ => len - (intOf x8).toNat)
  case atStart => exact ⟨0, SV.zero, by omega, rfl, K1.out, zeroV_ok, rfl, B1.out⟩
  case round =>
    obtain ⟨i, v, hi, rfl, hK, hok, hsl, hB⟩ := hrel
    have HK := hidden hK
    have HOK := hidden hok
    have HSL := hidden hsl
    have HB := hidden hB
    clear hK hok hsl hB K1 B1
    by_cases hlt : i < len
    · have hl1 : (i : Int) < (len : Int) := by omega
      have hl2 : (i : Int) < 32 := by omega
      have hl3 : i < 32 := by omega
      have hi0 : (0 : Int) ≤ (i : Int) := by omega
      have hiv : i < vs.length := by rw [HLEN.out]; omega
      obtain ⟨b, off, hao, hbl, hc⟩ := HW.out.at hiv
      obtain ⟨x, hx⟩ : ∃ x, vs.getD i 0 = x := ⟨_, rfl⟩
      have hx2 : x < 4294967296 := by
        rw [← hx, List.getD_eq_getElem?_getD, List.getElem?_eq_getElem hiv, Option.getD_some]
        exact HV.out _ (List.getElem_mem hiv)
      have hcell : wr.cell? ⟨b, off + i, none⟩ = some (.int .u32 (x : Int)) := by
        rw [← hx]
        exact (HB.out.cell (p := ⟨b, off + i, none⟩) (by rw [← hn]; exact hbl)).trans (hc i hiv)
      have HOK2 : Hid (SV.ok { v with R := v.R.set i (x : Int) }) := hidden (SV.ok_set HOK.out i _ (by omega) (by omega))
      have hix : ∀ u, (Instr.indexAt 24 (.pointer (some ⟨n, 0, none⟩)) (.int .i64 (i : Int))).run Try.prog u = .ok (.pointer (some ⟨n, i, none⟩)) u := fun u => index_reg n i hl3 u
      have HL3 := hidden hl3
      have HII : Hid (i + 1 ≤ len) := hidden (by omega)
      clear hc hx hx2 hbl hiv hl3
      subst hao
      go_wp2_with (first | (refine wpList_setR rfl rfl _ _ rfl n i v (x : Int) rfl rfl HK.out HOK.out.1 HL3.out ?_; rintro w2 k2 o2; have K2 := hidden k2; have B2 := hidden (Below.only HB.out o2 (Nat.le_refl n)); clear k2 o2))
      go_roundw
      case rel => first | exact ⟨i + 1, _, HII.out, by simp, K2.out, HOK2.out, HSL.out, B2.out⟩ | ((repeat apply Exists.intro); exact ⟨⟨i + 1, _, HII.out, by simp, K2.out, HOK2.out, HSL.out, B2.out⟩, rfl⟩)
      case measure => simp [intOf]; omega
    · obtain rfl : len = i := by omega
      have hl1 : ¬ (len : Int) < (len : Int) := by omega
      have h28 : Hid ((v.R.set 28 0).length = 32) := hidden (by rw [List.length_set]; exact HOK.out.1)
      have h29 : Hid ((28 : Nat) < 32) := hidden (by omega)
      have hix : ∀ u, (Instr.indexAt 24 (.pointer (some ⟨n, 0, none⟩)) (.int .i64 28)).run Try.prog u = .ok (.pointer (some ⟨n, 28, none⟩)) u := fun u => index_reg n 28 (by omega) u
      clear hi hlt
      go_upto_region 9 with (first
        | (refine wpList_setR rfl rfl _ _ rfl n 28 v 0 rfl rfl HK.out HOK.out.1 h29.out ?_; rintro w2 k2 o2; have K2 := hidden k2; have B2 := hidden (Below.only HB.out o2 (Nat.le_refl n)); clear k2 o2)
        | (refine wpList_set_pc rfl rfl _ _ rfl n { v with R := v.R.set 28 0 } (pcn : Int) rfl rfl K2.out h28.out ?_; rintro w3 k3 o3; have c34 : w3.cell? ⟨n, 34, none⟩ = some (.int .u32 (pcn : Int)) := k3.cell (SV.get_pc h28.out); have K3 := hidden k3; have B3 := hidden (Below.only B2.out o3 (Nat.le_refl n)); clear k3 o3 K2 B2)
        | (refine wpList_set_nx rfl rfl _ _ rfl n { v with R := v.R.set 28 0, pc := (pcn : Int) } ((pcn : Int) + 4) rfl rfl K3.out h28.out ?_; rintro w4 k4 o4; have KF : Hid (Blk w4 n (zrV v pcn).c 26) := hidden k4; have BF := hidden (Below.only B3.out o4 (Nat.le_refl n)); clear k4 o4 K3 B3 c34))
      have HVF := hidden (zrV_ok HOK.out pcn HPN.out.2.2)
      have HSLF : Hid ((zrV v pcn).sl = false) := hidden HSL.out
      have HPCF : Hid ((zrV v pcn).pc = (pcn : Int)) := hidden rfl
      have HNXF : Hid ((zrV v pcn).nx = (pcn : Int) + 4) := hidden rfl
      generalize zrV v pcn = VF at KF HVF HSLF HPCF HNXF
      clear hix h28 h29 HOK HSL HK HB
      refine wp_region_head later_below 8 [41, 42, 43, 44, 45, 46, 47, 48] (phiZr n pcn vv) (by kernel_rfl) (by kernel_rfl) rfl (phiZr_mono n pcn vv) ?_ ?_
      · intro j hj xs w3 hxs hR hpre
        obtain ⟨x0, x1, x2, x3, x4, x5, x6, x7, rfl⟩ := listZr xs hxs
        have hcp : w3.cell? ⟨n, 34, none⟩ = some (.int .u32 (pcn : Int)) := by rw [← HPCF.out]; exact (KF.out.later hR).cell (SV.get_pc HVF.out.1)
        rcases (show j = 0 ∨ j = 1 ∨ j = 2 ∨ j = 3 ∨ j = 4 ∨ j = 5 ∨ j = 6 ∨ j = 7 by omega) with rfl | rfl | rfl | rfl | rfl | rfl | rfl | rfl
        · exact wpOp_run (.pointer (some ⟨n, 34, none⟩)) rfl (by kernel_rfl) (by kernel_rfl) ⟨_, by kernel_rfl, rfl, Below.refl _ _⟩
        · have e0 : x0 = .pointer (some ⟨n, 34, none⟩) := hpre 0 (by kernel_rfl)
          subst e0
          exact wpOp_run (.int .u32 (pcn : Int)) rfl (by kernel_rfl) (exec_load 23 rfl (by kernel_rfl) w3 (loadU hcp)) ⟨_, by kernel_rfl, rfl, Below.refl _ _⟩
        · exact wpOp_run (.int .i64 vv) rfl (by kernel_rfl) (exec_move rfl (by kernel_rfl) w3) ⟨_, by kernel_rfl, rfl, Below.refl _ _⟩
        · have e2 : x2 = .int .i64 vv := hpre 2 (by kernel_rfl)
          subst e2
          refine wpOp_callR (R := fun u w4 => (∃ W : Nat, u = .int .u32 (W : Int) ∧ W < 4294967296 ∧ zrOp (insR W).op) ∧ Below w3.heap.size w3 w4) 15 #[.int .i64 vv] rfl (by kernel_rfl) (by kernel_rfl) ((plain00_any vv w3).mono fun e w4 h => by obtain ⟨W, he, h1, h2, hb⟩ := h; exact ⟨_, he, ⟨W, rfl, h1, h2⟩, hb⟩) ?_
          rintro u w4 ⟨hu, hb4⟩
          exact ⟨_, by kernel_rfl, hu, hb4⟩
        · have f3 : ∃ W : Nat, x3 = .int .u32 (W : Int) ∧ W < 4294967296 ∧ zrOp (insR W).op := hpre 3 (by kernel_rfl)
          obtain ⟨W3, e3, hw3, hz3⟩ := f3
          subst e3
          refine wpOp_callR (R := fun u w4 => (∃ W b1 : Nat, u = .slice (some ⟨b1, 0, none⟩) 4 4 ∧ Row w4 (some ⟨b1, 0, none⟩) (bytesL W) 4 ∧ W < 4294967296 ∧ zrOp (insR W).op) ∧ Below w3.heap.size w3 w4) 14 #[.int .u32 (W3 : Int)] rfl (by kernel_rfl) (by kernel_rfl) ((put01_any W3 hw3 w3).mono fun e w4 h => by obtain ⟨he, hr, hb, _⟩ := h; exact ⟨_, he, ⟨W3, _, rfl, hr, hw3, hz3⟩, hb⟩) ?_
          rintro u w4 ⟨hu, hb4⟩
          exact ⟨_, by kernel_rfl, hu, hb4⟩
        · have e1 : x1 = .int .u32 (pcn : Int) := hpre 1 (by kernel_rfl)
          subst e1
          have f4 : ∃ W b1 : Nat, x4 = .slice (some ⟨b1, 0, none⟩) 4 4 ∧ Row w3 (some ⟨b1, 0, none⟩) (bytesL W) 4 ∧ W < 4294967296 ∧ zrOp (insR W).op := hpre 4 (by kernel_rfl)
          obtain ⟨W4, b4, e4, hr4, hw4, hz4⟩ := f4
          subst e4
          exact wpOp_run (.agg #[.int .u32 (pcn : Int), .slice (some ⟨b4, 0, none⟩) 4 4, .int .i64 7, .bool false]) rfl (by kernel_rfl) (by kernel_rfl) ⟨_, by kernel_rfl, ⟨W4, b4, rfl, hr4, hw4, hz4⟩, Below.refl _ _⟩
        · exact wpOp_run (.slice (some ⟨w3.heap.size, 0, none⟩) 10 10) rfl (by kernel_rfl) (exec_made10 rfl rfl rfl w3) ⟨_, by kernel_rfl, ⟨_, rfl, row_made10 w3⟩, below_new w3 _⟩
        · have f6 : ∃ b2 : Nat, x6 = .slice (some ⟨b2, 0, none⟩) 10 10 ∧ Row w3 (some ⟨b2, 0, none⟩) (List.replicate 10 0) 10 := hpre 6 (by kernel_rfl)
          obtain ⟨b6, e6, hr6⟩ := f6
          subst e6
          exact wpOp_run (.agg #[.int .u32 0, .slice (some ⟨b6, 0, none⟩) 10 10, .int .i64 6, .bool false]) rfl (by kernel_rfl) (by kernel_rfl) ⟨_, by kernel_rfl, ⟨b6, rfl, hr6⟩, Below.refl _ _⟩
      · intro xs w3 hxs hR hall
        obtain ⟨x0, x1, x2, x3, x4, x5, x6, x7, rfl⟩ := listZr xs hxs
        have f5 : ∃ W b1 : Nat, x5 = .agg #[.int .u32 (pcn : Int), .slice (some ⟨b1, 0, none⟩) 4 4, .int .i64 7, .bool false] ∧ Row w3 (some ⟨b1, 0, none⟩) (bytesL W) 4 ∧ W < 4294967296 ∧ zrOp (insR W).op := hall 5 (by omega)
        obtain ⟨W5, b5, e5, hr5, hw5, hz5⟩ := f5
        subst e5
        have f7 : ∃ b2 : Nat, x7 = .agg #[.int .u32 0, .slice (some ⟨b2, 0, none⟩) 10 10, .int .i64 6, .bool false] ∧ Row w3 (some ⟨b2, 0, none⟩) (List.replicate 10 0) 10 := hall 7 (by omega)
        obtain ⟨b7, e7, hr7⟩ := f7
        subst e7
        have HRR := hidden hR
        have HME := hidden (zr_memory w3 pcn W5 b5 b7 (by omega) hr5 hr7)
        have ZB3 : Hid (ZB W0 n VF w3) := hidden ⟨BF.out.trans (hR.mono (Nat.le_of_lt KF.out.lt)), KF.out.later hR⟩
        have HW5 := hidden hw5
        have HZ5 := hidden hz5
        clear hall hR hxs hr5 hr7 hw5 hz5
        simp only [slotsOn, putAll, List.set_cons_succ, List.set_cons_zero, List.drop_succ_cons, List.drop_zero]
        go_upto_region 10 with (first | (go_at_call 9; refine HME.out.mono ?_; rintro e w5 ⟨s, rfl, ho, habs, hc⟩; have HO := hidden ho; have AB := hidden habs; have CC := hidden hc; clear ho habs hc HME))
        have KV := hidden (ZB3.out.s0.later HO.out.below)
        rcases zr_step HVF.out.1 HSLF.out HPCF.out HPN.out.2.1 HPN.out.2.2 HPN.out.1 AB.out HW5.out HZ5.out with ⟨kd, bd, hX, hk⟩ | ⟨st, hX, hst⟩
        · have HST := hidden (step_stop HO.out.mem HVF.out (by have := CC.out; omega) hX)
          have HK := hidden hk
          rw [HSLF.out, HPCF.out] at HST
          clear hX hk
          go_upto_region 12 with (first
                  | (refine wpList_loadV rfl _ rfl n VF rfl KV.out HVF.out.1 ?_)
                  | (go_at_call 10; refine HST.out.mono ?_; rintro e w6 ⟨rfl, s', hp, st6⟩; have P6 := hidden (ZB3.out.step HO.out st6); clear hp st6 HO ZB3 KV)
                  | (refine wpList_allocV rfl rfl ?_; rintro w7 k7 s7 b7; obtain ⟨g, hg⟩ : ∃ g, w6.heap.size = g := ⟨_, rfl⟩; have HG := hidden hg; have B7 := hidden b7; rw [hg] at k7 s7 ⊢; have K7 := hidden k7; have S7 := hidden s7; clear k7 s7 b7 hg)
                  | (refine wpList_allocFa rfl rfl ?_; rintro w8 k8 s8 b8; have K8 := hidden (K7.out.later b8); have B8 := hidden (B7.out.trans (b8.mono B7.out.size)); rw [S7.out] at k8 ⊢; have F8 := hidden k8; clear k8 s8 b8 K7 B7)
                  | (refine wpList_storeV rfl rfl _ _ rfl g SV.zero VF rfl rfl K8.out rfl HVF.out.1 ?_; rintro w9 k9 o9; have K9 := hidden k9; have F9 := hidden (F8.out.only o9 (by omega)); have B9 := hidden (Below.only B8.out o9 (by rw [HG.out]; exact Nat.le_refl _)); clear k9 o9 K8 F8 B8)
                  | (refine wpList_storeFa rfl rfl _ _ rfl (g + 1) zFa (faultC kd (pcn : Int) false bd) rfl rfl F9.out rfl rfl (by kernel_rfl) ?_; rintro w10 k10 o10; have P9 := hidden (ZC.mk1 P6.out HG.out (Below.only B9.out o10 (by rw [HG.out]; omega)) (K9.out.only o10 (by omega)) k10); clear k10 o10 K9 F9 B9 P6; obtain ⟨c0, c1, c3⟩ := P9.out.stop HVF.out.1 HPCF.out))
          rcases HK.out with h | h | h | h | h | h <;> subst h
          · go_wp2_with (first | (go_at_call 8; refine (HAW.out _).mono ?_; rintro e w11 ⟨rfl, b11⟩; have Q := hidden (P9.out.later b11); clear P9 b11; have P9 := Q; clear Q))
            go_ret
            exact ⟨rfl, by rw [hn]; exact P9.out.zb.bel⟩
          · go_wp2_with (first | (go_at_call 8; refine (HAW.out _).mono ?_; rintro e w11 ⟨rfl, b11⟩; have Q := hidden (P9.out.later b11); clear P9 b11; have P9 := Q; clear Q))
            go_ret
            exact ⟨rfl, by rw [hn]; exact P9.out.zb.bel⟩
          · go_wp2_with (first | (go_at_call 8; refine (HAW.out _).mono ?_; rintro e w11 ⟨rfl, b11⟩; have Q := hidden (P9.out.later b11); clear P9 b11; have P9 := Q; clear Q))
            go_ret
            exact ⟨rfl, by rw [hn]; exact P9.out.zb.bel⟩
          · go_wp2_with (first | (go_at_call 8; refine (HAW.out _).mono ?_; rintro e w11 ⟨rfl, b11⟩; have Q := hidden (P9.out.later b11); clear P9 b11; have P9 := Q; clear Q))
            go_ret
            exact ⟨rfl, by rw [hn]; exact P9.out.zb.bel⟩
          · go_wp2_with (first | (go_at_call 8; refine (HAW.out _).mono ?_; rintro e w11 ⟨rfl, b11⟩; have Q := hidden (P9.out.later b11); clear P9 b11; have P9 := Q; clear Q))
            go_ret
            exact ⟨rfl, by rw [hn]; exact P9.out.zb.bel⟩
          · go_wp2_with (first | (go_at_call 8; refine (HAW.out _).mono ?_; rintro e w11 ⟨rfl, b11⟩; have Q := hidden (P9.out.later b11); clear P9 b11; have P9 := Q; clear Q))
            go_ret
            exact ⟨rfl, by rw [hn]; exact P9.out.zb.bel⟩
        · have HST := hidden (step_went HO.out.mem HVF.out (by have := CC.out; omega) hX)
          have HSF := hidden hst
          clear hX hst
          go_wp2_with (first
                  | (refine wpList_loadV rfl _ rfl n VF rfl KV.out HVF.out.1 ?_)
                  | (go_at_call 10; refine HST.out.mono ?_; rintro e w6 ⟨rfl, s', hp, st6⟩; have P6 := hidden (ZB3.out.step HO.out st6); clear hp st6 HO ZB3 KV)
                  | (refine wpList_allocV rfl rfl ?_; rintro w7 k7 s7 b7; obtain ⟨g, hg⟩ : ∃ g, w6.heap.size = g := ⟨_, rfl⟩; have HG := hidden hg; have B7 := hidden b7; rw [hg] at k7 s7 ⊢; have K7 := hidden k7; have S7 := hidden s7; clear k7 s7 b7 hg)
                  | (refine wpList_allocFa rfl rfl ?_; rintro w8 k8 s8 b8; have K8 := hidden (K7.out.later b8); have B8 := hidden (B7.out.trans (b8.mono B7.out.size)); rw [S7.out] at k8 ⊢; have F8 := hidden k8; clear k8 s8 b8 K7 B7)
                  | (refine wpList_storeV rfl rfl _ _ rfl g SV.zero st rfl rfl K8.out rfl HSF.out.1 ?_; rintro w9 k9 o9; have K9 := hidden k9; have F9 := hidden (F8.out.only o9 (by omega)); have B9 := hidden (Below.only B8.out o9 (by rw [HG.out]; exact Nat.le_refl _)); clear k9 o9 K8 F8 B8)
                  | (refine wpList_storeFa rfl rfl _ _ rfl (g + 1) zFa (faultC 0 0 false 0) rfl rfl F9.out rfl rfl (by kernel_rfl) ?_; rintro w10 k10 o10; have P9 := hidden (ZC.mk1 P6.out HG.out (Below.only B9.out o10 (by rw [HG.out]; omega)) (K9.out.only o10 (by omega)) k10); clear k10 o10 K9 F9 B9 P6; obtain ⟨c0, c1, c2, c3, c4⟩ := P9.out.went HVF.out.1 HNXF.out HPI.out HSF.out)
                  | (go_at_call 8; refine (HAW.out _).mono ?_; rintro e w11 ⟨rfl, b11⟩; have Q := hidden (P9.out.later b11); clear P9 b11; have P9 := Q; clear Q))
          go_ret
          exact ⟨rfl, by rw [hn]; exact P9.out.zb.bel⟩
end Go.Proofs.Ytobnocioefchlaa
namespace Go.Proofs.Ytobnocioefchlaa
open Go.ChangeShapes Go.WideShapes Go.ChangeAt Go.RowKit
set_option linter.unusedVariables false
set_option maxRecDepth 20000 in
set_option maxHeartbeats 2000000 in
theorem zero_b (vv : Int) (W0 : World) (ao : Option Addr) (len cap : Nat) (vs : List Nat) (hw : WdsA W0 ao vs) (hlen : vs.length = len) (hv : ∀ x ∈ vs, x < 4294967296) (hl : 32 < len) (pc : Nat) (hpc : pc < 4294967296) : Calls Try.prog 4 #[.int .i64 vv, .slice ao len cap, .int .u32 (pc : Int)] W0 fun e w' => e = .returned (.bool true) ∧ Below W0.heap.size W0 w' := by
  obtain ⟨n, hn⟩ : ∃ n, W0.heap.size = n := ⟨_, rfl⟩
  have HW := hidden hw
  have HLEN := hidden hlen
  have HV := hidden hv
  obtain ⟨pcn, hpcn, hp1, hp2, hp3⟩ : ∃ pcn : Nat, (pc : Int) % 64 * 4 + 4096 = (pcn : Int) ∧ pcn % 4 = 0 ∧ 4096 ≤ pcn ∧ pcn < 4352 := ⟨pc % 64 * 4 + 4096, by omega, by omega, by omega, by omega⟩
  have HPN := hidden (And.intro hp1 (And.intro hp2 hp3))
  have HPI : Hid (0 ≤ (pcn : Int) ∧ (pcn : Int) < 4352) := hidden ⟨by omega, by omega⟩
  have HAW := hidden awake11_any
  clear hw hlen hv hp1 hp2 hpc
  go_enter Try.func4, Try.ntmps4
  go_wp2_with (first | (refine wpList_allocV rfl rfl ?_; rintro w1 k1 s1 b1; rw [hn] at k1 s1 b1 ⊢; have K1 := hidden k1; have B1 := hidden b1; clear k1 s1 b1))
  go_loopw [8] (fun x8 wr => ∃ (i : Nat) (v : SV), i ≤ 32 ∧ x8 = .int .i64 (i : Int) ∧ Blk wr n v.c 26 ∧ v.ok ∧ v.sl = false ∧ Below n W0 wr) (fun x8 _ => 32 - (intOf x8).toNat)
  case atStart => exact ⟨0, SV.zero, by omega, rfl, K1.out, zeroV_ok, rfl, B1.out⟩
  case round =>
    obtain ⟨i, v, hi, rfl, hK, hok, hsl, hB⟩ := hrel
    have HK := hidden hK
    have HOK := hidden hok
    have HSL := hidden hsl
    have HB := hidden hB
    clear hK hok hsl hB K1 B1
    by_cases hlt : i < 32
    · have hl1 : (i : Int) < (len : Int) := by omega
      have hl2 : (i : Int) < 32 := by omega
      have hl3 : i < 32 := by omega
      have hi0 : (0 : Int) ≤ (i : Int) := by omega
      have hiv : i < vs.length := by rw [HLEN.out]; omega
      obtain ⟨b, off, hao, hbl, hc⟩ := HW.out.at hiv
      obtain ⟨x, hx⟩ : ∃ x, vs.getD i 0 = x := ⟨_, rfl⟩
      have hx2 : x < 4294967296 := by
        rw [← hx, List.getD_eq_getElem?_getD, List.getElem?_eq_getElem hiv, Option.getD_some]
        exact HV.out _ (List.getElem_mem hiv)
      have hcell : wr.cell? ⟨b, off + i, none⟩ = some (.int .u32 (x : Int)) := by
        rw [← hx]
        exact (HB.out.cell (p := ⟨b, off + i, none⟩) (by rw [← hn]; exact hbl)).trans (hc i hiv)
      have HOK2 : Hid (SV.ok { v with R := v.R.set i (x : Int) }) := hidden (SV.ok_set HOK.out i _ (by omega) (by omega))
      have hix : ∀ u, (Instr.indexAt 24 (.pointer (some ⟨n, 0, none⟩)) (.int .i64 (i : Int))).run Try.prog u = .ok (.pointer (some ⟨n, i, none⟩)) u := fun u => index_reg n i hl3 u
      have HL3 := hidden hl3
      have HII : Hid (i + 1 ≤ 32) := hidden (by omega)
      clear hc hx hx2 hbl hiv hl3
      subst hao
      go_wp2_with (first | (refine wpList_setR rfl rfl _ _ rfl n i v (x : Int) rfl rfl HK.out HOK.out.1 HL3.out ?_; rintro w2 k2 o2; have K2 := hidden k2; have B2 := hidden (Below.only HB.out o2 (Nat.le_refl n)); clear k2 o2))
      go_roundw
      case rel => first | exact ⟨i + 1, _, HII.out, by simp, K2.out, HOK2.out, HSL.out, B2.out⟩ | ((repeat apply Exists.intro); exact ⟨⟨i + 1, _, HII.out, by simp, K2.out, HOK2.out, HSL.out, B2.out⟩, rfl⟩)
      case measure => simp [intOf]; omega
    · obtain rfl : i = 32 := by omega
      have hl1 : (32 : Int) < (len : Int) := by omega
      have h28 : Hid ((v.R.set 28 0).length = 32) := hidden (by rw [List.length_set]; exact HOK.out.1)
      have h29 : Hid ((28 : Nat) < 32) := hidden (by omega)
      have hix : ∀ u, (Instr.indexAt 24 (.pointer (some ⟨n, 0, none⟩)) (.int .i64 28)).run Try.prog u = .ok (.pointer (some ⟨n, 28, none⟩)) u := fun u => index_reg n 28 (by omega) u
      clear hi hlt
      go_upto_region 9 with (first
        | (refine wpList_setR rfl rfl _ _ rfl n 28 v 0 rfl rfl HK.out HOK.out.1 h29.out ?_; rintro w2 k2 o2; have K2 := hidden k2; have B2 := hidden (Below.only HB.out o2 (Nat.le_refl n)); clear k2 o2)
        | (refine wpList_set_pc rfl rfl _ _ rfl n { v with R := v.R.set 28 0 } (pcn : Int) rfl rfl K2.out h28.out ?_; rintro w3 k3 o3; have c34 : w3.cell? ⟨n, 34, none⟩ = some (.int .u32 (pcn : Int)) := k3.cell (SV.get_pc h28.out); have K3 := hidden k3; have B3 := hidden (Below.only B2.out o3 (Nat.le_refl n)); clear k3 o3 K2 B2)
        | (refine wpList_set_nx rfl rfl _ _ rfl n { v with R := v.R.set 28 0, pc := (pcn : Int) } ((pcn : Int) + 4) rfl rfl K3.out h28.out ?_; rintro w4 k4 o4; have KF : Hid (Blk w4 n (zrV v pcn).c 26) := hidden k4; have BF := hidden (Below.only B3.out o4 (Nat.le_refl n)); clear k4 o4 K3 B3 c34))
      have HVF := hidden (zrV_ok HOK.out pcn HPN.out.2.2)
      have HSLF : Hid ((zrV v pcn).sl = false) := hidden HSL.out
      have HPCF : Hid ((zrV v pcn).pc = (pcn : Int)) := hidden rfl
      have HNXF : Hid ((zrV v pcn).nx = (pcn : Int) + 4) := hidden rfl
      generalize zrV v pcn = VF at KF HVF HSLF HPCF HNXF
      clear hix h28 h29 HOK HSL HK HB
      refine wp_region_head later_below 8 [41, 42, 43, 44, 45, 46, 47, 48] (phiZr n pcn vv) (by kernel_rfl) (by kernel_rfl) rfl (phiZr_mono n pcn vv) ?_ ?_
      · intro j hj xs w3 hxs hR hpre
        obtain ⟨x0, x1, x2, x3, x4, x5, x6, x7, rfl⟩ := listZr xs hxs
        have hcp : w3.cell? ⟨n, 34, none⟩ = some (.int .u32 (pcn : Int)) := by rw [← HPCF.out]; exact (KF.out.later hR).cell (SV.get_pc HVF.out.1)
        rcases (show j = 0 ∨ j = 1 ∨ j = 2 ∨ j = 3 ∨ j = 4 ∨ j = 5 ∨ j = 6 ∨ j = 7 by omega) with rfl | rfl | rfl | rfl | rfl | rfl | rfl | rfl
        · exact wpOp_run (.pointer (some ⟨n, 34, none⟩)) rfl (by kernel_rfl) (by kernel_rfl) ⟨_, by kernel_rfl, rfl, Below.refl _ _⟩
        · have e0 : x0 = .pointer (some ⟨n, 34, none⟩) := hpre 0 (by kernel_rfl)
          subst e0
          exact wpOp_run (.int .u32 (pcn : Int)) rfl (by kernel_rfl) (exec_load 23 rfl (by kernel_rfl) w3 (loadU hcp)) ⟨_, by kernel_rfl, rfl, Below.refl _ _⟩
        · exact wpOp_run (.int .i64 vv) rfl (by kernel_rfl) (exec_move rfl (by kernel_rfl) w3) ⟨_, by kernel_rfl, rfl, Below.refl _ _⟩
        · have e2 : x2 = .int .i64 vv := hpre 2 (by kernel_rfl)
          subst e2
          refine wpOp_callR (R := fun u w4 => (∃ W : Nat, u = .int .u32 (W : Int) ∧ W < 4294967296 ∧ zrOp (insR W).op) ∧ Below w3.heap.size w3 w4) 15 #[.int .i64 vv] rfl (by kernel_rfl) (by kernel_rfl) ((plain00_any vv w3).mono fun e w4 h => by obtain ⟨W, he, h1, h2, hb⟩ := h; exact ⟨_, he, ⟨W, rfl, h1, h2⟩, hb⟩) ?_
          rintro u w4 ⟨hu, hb4⟩
          exact ⟨_, by kernel_rfl, hu, hb4⟩
        · have f3 : ∃ W : Nat, x3 = .int .u32 (W : Int) ∧ W < 4294967296 ∧ zrOp (insR W).op := hpre 3 (by kernel_rfl)
          obtain ⟨W3, e3, hw3, hz3⟩ := f3
          subst e3
          refine wpOp_callR (R := fun u w4 => (∃ W b1 : Nat, u = .slice (some ⟨b1, 0, none⟩) 4 4 ∧ Row w4 (some ⟨b1, 0, none⟩) (bytesL W) 4 ∧ W < 4294967296 ∧ zrOp (insR W).op) ∧ Below w3.heap.size w3 w4) 14 #[.int .u32 (W3 : Int)] rfl (by kernel_rfl) (by kernel_rfl) ((put01_any W3 hw3 w3).mono fun e w4 h => by obtain ⟨he, hr, hb, _⟩ := h; exact ⟨_, he, ⟨W3, _, rfl, hr, hw3, hz3⟩, hb⟩) ?_
          rintro u w4 ⟨hu, hb4⟩
          exact ⟨_, by kernel_rfl, hu, hb4⟩
        · have e1 : x1 = .int .u32 (pcn : Int) := hpre 1 (by kernel_rfl)
          subst e1
          have f4 : ∃ W b1 : Nat, x4 = .slice (some ⟨b1, 0, none⟩) 4 4 ∧ Row w3 (some ⟨b1, 0, none⟩) (bytesL W) 4 ∧ W < 4294967296 ∧ zrOp (insR W).op := hpre 4 (by kernel_rfl)
          obtain ⟨W4, b4, e4, hr4, hw4, hz4⟩ := f4
          subst e4
          exact wpOp_run (.agg #[.int .u32 (pcn : Int), .slice (some ⟨b4, 0, none⟩) 4 4, .int .i64 7, .bool false]) rfl (by kernel_rfl) (by kernel_rfl) ⟨_, by kernel_rfl, ⟨W4, b4, rfl, hr4, hw4, hz4⟩, Below.refl _ _⟩
        · exact wpOp_run (.slice (some ⟨w3.heap.size, 0, none⟩) 10 10) rfl (by kernel_rfl) (exec_made10 rfl rfl rfl w3) ⟨_, by kernel_rfl, ⟨_, rfl, row_made10 w3⟩, below_new w3 _⟩
        · have f6 : ∃ b2 : Nat, x6 = .slice (some ⟨b2, 0, none⟩) 10 10 ∧ Row w3 (some ⟨b2, 0, none⟩) (List.replicate 10 0) 10 := hpre 6 (by kernel_rfl)
          obtain ⟨b6, e6, hr6⟩ := f6
          subst e6
          exact wpOp_run (.agg #[.int .u32 0, .slice (some ⟨b6, 0, none⟩) 10 10, .int .i64 6, .bool false]) rfl (by kernel_rfl) (by kernel_rfl) ⟨_, by kernel_rfl, ⟨b6, rfl, hr6⟩, Below.refl _ _⟩
      · intro xs w3 hxs hR hall
        obtain ⟨x0, x1, x2, x3, x4, x5, x6, x7, rfl⟩ := listZr xs hxs
        have f5 : ∃ W b1 : Nat, x5 = .agg #[.int .u32 (pcn : Int), .slice (some ⟨b1, 0, none⟩) 4 4, .int .i64 7, .bool false] ∧ Row w3 (some ⟨b1, 0, none⟩) (bytesL W) 4 ∧ W < 4294967296 ∧ zrOp (insR W).op := hall 5 (by omega)
        obtain ⟨W5, b5, e5, hr5, hw5, hz5⟩ := f5
        subst e5
        have f7 : ∃ b2 : Nat, x7 = .agg #[.int .u32 0, .slice (some ⟨b2, 0, none⟩) 10 10, .int .i64 6, .bool false] ∧ Row w3 (some ⟨b2, 0, none⟩) (List.replicate 10 0) 10 := hall 7 (by omega)
        obtain ⟨b7, e7, hr7⟩ := f7
        subst e7
        have HRR := hidden hR
        have HME := hidden (zr_memory w3 pcn W5 b5 b7 (by omega) hr5 hr7)
        have ZB3 : Hid (ZB W0 n VF w3) := hidden ⟨BF.out.trans (hR.mono (Nat.le_of_lt KF.out.lt)), KF.out.later hR⟩
        have HW5 := hidden hw5
        have HZ5 := hidden hz5
        clear hall hR hxs hr5 hr7 hw5 hz5
        simp only [slotsOn, putAll, List.set_cons_succ, List.set_cons_zero, List.drop_succ_cons, List.drop_zero]
        go_upto_region 10 with (first | (go_at_call 9; refine HME.out.mono ?_; rintro e w5 ⟨s, rfl, ho, habs, hc⟩; have HO := hidden ho; have AB := hidden habs; have CC := hidden hc; clear ho habs hc HME))
        have KV := hidden (ZB3.out.s0.later HO.out.below)
        rcases zr_step HVF.out.1 HSLF.out HPCF.out HPN.out.2.1 HPN.out.2.2 HPN.out.1 AB.out HW5.out HZ5.out with ⟨kd, bd, hX, hk⟩ | ⟨st, hX, hst⟩
        · have HST := hidden (step_stop HO.out.mem HVF.out (by have := CC.out; omega) hX)
          have HK := hidden hk
          rw [HSLF.out, HPCF.out] at HST
          clear hX hk
          go_upto_region 12 with (first
                  | (refine wpList_loadV rfl _ rfl n VF rfl KV.out HVF.out.1 ?_)
                  | (go_at_call 10; refine HST.out.mono ?_; rintro e w6 ⟨rfl, s', hp, st6⟩; have P6 := hidden (ZB3.out.step HO.out st6); clear hp st6 HO ZB3 KV)
                  | (refine wpList_allocV rfl rfl ?_; rintro w7 k7 s7 b7; obtain ⟨g, hg⟩ : ∃ g, w6.heap.size = g := ⟨_, rfl⟩; have HG := hidden hg; have B7 := hidden b7; rw [hg] at k7 s7 ⊢; have K7 := hidden k7; have S7 := hidden s7; clear k7 s7 b7 hg)
                  | (refine wpList_allocFa rfl rfl ?_; rintro w8 k8 s8 b8; have K8 := hidden (K7.out.later b8); have B8 := hidden (B7.out.trans (b8.mono B7.out.size)); rw [S7.out] at k8 ⊢; have F8 := hidden k8; clear k8 s8 b8 K7 B7)
                  | (refine wpList_storeV rfl rfl _ _ rfl g SV.zero VF rfl rfl K8.out rfl HVF.out.1 ?_; rintro w9 k9 o9; have K9 := hidden k9; have F9 := hidden (F8.out.only o9 (by omega)); have B9 := hidden (Below.only B8.out o9 (by rw [HG.out]; exact Nat.le_refl _)); clear k9 o9 K8 F8 B8)
                  | (refine wpList_storeFa rfl rfl _ _ rfl (g + 1) zFa (faultC kd (pcn : Int) false bd) rfl rfl F9.out rfl rfl (by kernel_rfl) ?_; rintro w10 k10 o10; have P9 := hidden (ZC.mk1 P6.out HG.out (Below.only B9.out o10 (by rw [HG.out]; omega)) (K9.out.only o10 (by omega)) k10); clear k10 o10 K9 F9 B9 P6; obtain ⟨c0, c1, c3⟩ := P9.out.stop HVF.out.1 HPCF.out))
          rcases HK.out with h | h | h | h | h | h <;> subst h
          · go_wp2_with (first | (go_at_call 8; refine (HAW.out _).mono ?_; rintro e w11 ⟨rfl, b11⟩; have Q := hidden (P9.out.later b11); clear P9 b11; have P9 := Q; clear Q))
            go_ret
            exact ⟨rfl, by rw [hn]; exact P9.out.zb.bel⟩
          · go_wp2_with (first | (go_at_call 8; refine (HAW.out _).mono ?_; rintro e w11 ⟨rfl, b11⟩; have Q := hidden (P9.out.later b11); clear P9 b11; have P9 := Q; clear Q))
            go_ret
            exact ⟨rfl, by rw [hn]; exact P9.out.zb.bel⟩
          · go_wp2_with (first | (go_at_call 8; refine (HAW.out _).mono ?_; rintro e w11 ⟨rfl, b11⟩; have Q := hidden (P9.out.later b11); clear P9 b11; have P9 := Q; clear Q))
            go_ret
            exact ⟨rfl, by rw [hn]; exact P9.out.zb.bel⟩
          · go_wp2_with (first | (go_at_call 8; refine (HAW.out _).mono ?_; rintro e w11 ⟨rfl, b11⟩; have Q := hidden (P9.out.later b11); clear P9 b11; have P9 := Q; clear Q))
            go_ret
            exact ⟨rfl, by rw [hn]; exact P9.out.zb.bel⟩
          · go_wp2_with (first | (go_at_call 8; refine (HAW.out _).mono ?_; rintro e w11 ⟨rfl, b11⟩; have Q := hidden (P9.out.later b11); clear P9 b11; have P9 := Q; clear Q))
            go_ret
            exact ⟨rfl, by rw [hn]; exact P9.out.zb.bel⟩
          · go_wp2_with (first | (go_at_call 8; refine (HAW.out _).mono ?_; rintro e w11 ⟨rfl, b11⟩; have Q := hidden (P9.out.later b11); clear P9 b11; have P9 := Q; clear Q))
            go_ret
            exact ⟨rfl, by rw [hn]; exact P9.out.zb.bel⟩
        · have HST := hidden (step_went HO.out.mem HVF.out (by have := CC.out; omega) hX)
          have HSF := hidden hst
          clear hX hst
          go_wp2_with (first
                  | (refine wpList_loadV rfl _ rfl n VF rfl KV.out HVF.out.1 ?_)
                  | (go_at_call 10; refine HST.out.mono ?_; rintro e w6 ⟨rfl, s', hp, st6⟩; have P6 := hidden (ZB3.out.step HO.out st6); clear hp st6 HO ZB3 KV)
                  | (refine wpList_allocV rfl rfl ?_; rintro w7 k7 s7 b7; obtain ⟨g, hg⟩ : ∃ g, w6.heap.size = g := ⟨_, rfl⟩; have HG := hidden hg; have B7 := hidden b7; rw [hg] at k7 s7 ⊢; have K7 := hidden k7; have S7 := hidden s7; clear k7 s7 b7 hg)
                  | (refine wpList_allocFa rfl rfl ?_; rintro w8 k8 s8 b8; have K8 := hidden (K7.out.later b8); have B8 := hidden (B7.out.trans (b8.mono B7.out.size)); rw [S7.out] at k8 ⊢; have F8 := hidden k8; clear k8 s8 b8 K7 B7)
                  | (refine wpList_storeV rfl rfl _ _ rfl g SV.zero st rfl rfl K8.out rfl HSF.out.1 ?_; rintro w9 k9 o9; have K9 := hidden k9; have F9 := hidden (F8.out.only o9 (by omega)); have B9 := hidden (Below.only B8.out o9 (by rw [HG.out]; exact Nat.le_refl _)); clear k9 o9 K8 F8 B8)
                  | (refine wpList_storeFa rfl rfl _ _ rfl (g + 1) zFa (faultC 0 0 false 0) rfl rfl F9.out rfl rfl (by kernel_rfl) ?_; rintro w10 k10 o10; have P9 := hidden (ZC.mk1 P6.out HG.out (Below.only B9.out o10 (by rw [HG.out]; omega)) (K9.out.only o10 (by omega)) k10); clear k10 o10 K9 F9 B9 P6; obtain ⟨c0, c1, c2, c3, c4⟩ := P9.out.went HVF.out.1 HNXF.out HPI.out HSF.out)
                  | (go_at_call 8; refine (HAW.out _).mono ?_; rintro e w11 ⟨rfl, b11⟩; have Q := hidden (P9.out.later b11); clear P9 b11; have P9 := Q; clear Q))
          go_ret
          exact ⟨rfl, by rw [hn]; exact P9.out.zb.bel⟩
end Go.Proofs.Ytobnocioefchlaa
