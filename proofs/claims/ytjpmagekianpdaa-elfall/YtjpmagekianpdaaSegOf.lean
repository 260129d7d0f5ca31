/- One row's segment. -/
import Derived.Test.YtjpmagekianpdaaTables
import Derived.Test.YtjpmagekianpdaaHead
namespace Go.Proofs.Ytjpmagekianpdaa
open Go.ChangeShapes Go.WideShapes Go.ChangeAt Go.RowKit
set_option linter.unusedVariables false
def sgV (s : Sg) : Value := .agg #[.int .u32 (s.at_ : Int), .string ⟨s.data.toArray⟩, .int .u32 (s.size : Int), .int .i64 s.perm]
/-- The segment of a row's 32 bytes. -/
def segR (l r : List UInt8) : Sg := ⟨w32 r 8, (l.drop (w32 r 4)).take (w32 r 16), w32 r 20, ((w32 r 24 % 8 : Nat) : Int)⟩
def segOkR (l r : List UInt8) : Bool := decide (w32 r 4 + w32 r 16 ≤ l.length) && fitsB (segR l r)
section
variable {ρ : Operand → Value} {o : Oper}
theorem exec_conv {x : Operand} {n : Nat} (hop : o.op = .convert 23 3 x) (hx : ρ x = .int .u32 (n : Int)) (hn : n < 4294967296) (w : World) : (execOp ρ o).run Try.prog w = .ok (.value (.int .i64 (n : Int))) w := by
  have e : IntKind.i64.wrap (n : Int) = (n : Int) := by rw [IntKind.wrap_i64]; omega
  unfold execOp
  rw [hop]
  simp [hx, convert, run_underlying Try.underlying23, run_underlying Try.underlying3, go_sem, e]
theorem exec_alloc43 (hop : o.op = .alloc 43) (w : World) : (execOp ρ o).run Try.prog w = .ok (.value (.pointer (some ⟨w.heap.size, 0, none⟩))) (w.alloc (.cells #[.int .u32 0, .string ⟨#[]⟩, .int .u32 0, .int .i64 0] 43)) := by
  unfold execOp
  rw [hop]
  kernel_rfl
end
theorem build43 (a c d : Int) (s : ByteArray) (w : World) : (Instr.build 43 #[(0, .int .u32 a), (1, .string s), (2, .int .u32 c), (3, .int .i64 d)]).run Try.prog w = .ok (.agg #[.int .u32 a, .string s, .int .u32 c, .int .i64 d]) w := by kernel_rfl
theorem zero_facts {w : World} {g : Nat} (h : Blk w g #[.int .u32 0, .string ⟨#[]⟩, .int .u32 0, .int .i64 0] 43) : w.cell? ⟨g, 0, none⟩ = some (.int .u32 0) ∧ w.cell? ⟨g, 1, none⟩ = some (.string ⟨#[]⟩) ∧ w.cell? ⟨g, 2, none⟩ = some (.int .u32 0) ∧ w.cell? ⟨g, 3, none⟩ = some (.int .i64 0) ∧ g < w.heap.size ∧ ∀ j, w.frozen? ⟨g, j, none⟩ = false :=
  ⟨h.cell rfl, h.cell rfl, h.cell rfl, h.cell rfl, h.lt, fun j => frozen_of_row _ _ _ _ _ h⟩
theorem Blk.set4 {w : World} {g : Nat} {a b c d a' b' c' d' : Value} {T : TypeId} (h : Blk w g #[a, b, c, d] T) : Blk ((((w.setCell ⟨g, 0, none⟩ a').setCell ⟨g, 1, none⟩ b').setCell ⟨g, 2, none⟩ c').setCell ⟨g, 3, none⟩ d') g #[a', b', c', d'] T := by
  have h1 := heap_setCell_same w g 0 _ _ a' h
  have h2 := heap_setCell_same _ g 1 _ _ b' h1
  have h3 := heap_setCell_same _ g 2 _ _ c' h2
  exact heap_setCell_same _ g 3 _ _ d' h3
theorem Blk.other {w : World} {g k j : Nat} {cs : Array Value} {v : Value} {T : TypeId} (h : Blk w k cs T) (hne : k ≠ g) : Blk (w.setCell ⟨g, j, none⟩ v) k cs T := (Below.heap_setCell _ _ _ _ hne).trans h
theorem below_set4 {w u : World} {g : Nat} {a' b' c' d' : Value} {B : Nat} (h : Below B u w) (hg : B ≤ g) : Below B u ((((w.setCell ⟨g, 0, none⟩ a').setCell ⟨g, 1, none⟩ b').setCell ⟨g, 2, none⟩ c').setCell ⟨g, 3, none⟩ d') :=
  (((h.setCell (p := ⟨g, 0, none⟩) hg _).setCell (p := ⟨g, 1, none⟩) hg _).setCell (p := ⟨g, 2, none⟩) hg _).setCell (p := ⟨g, 3, none⟩) hg _
/-- What the slots of the region hold, whatever the order. -/
def phiSg (m rc pm : Nat) (ra da : Option Addr) (r d : List UInt8) : Nat → Value → World → Prop
  | 0, x, _ => x = .slice ra r.length rc
  | 1, x, _ => x = .int .u32 (w32 r 8 : Int)
  | 2, x, _ => x = .slice da d.length d.length
  | 3, x, _ => x = .string ⟨d.toArray⟩
  | 4, x, _ => x = .slice ra r.length rc
  | 5, x, _ => x = .int .u32 (w32 r 20 : Int)
  | 6, x, _ => x = .slice ra r.length rc
  | 7, x, _ => x = .int .u32 (w32 r 24 : Int)
  | 8, x, _ => x = .int .u32 (pm : Int)
  | 9, x, _ => x = .int .i64 (pm : Int)
  | 10, x, _ => x = .agg #[.int .u32 (w32 r 8 : Int), .string ⟨d.toArray⟩, .int .u32 (w32 r 20 : Int), .int .i64 (pm : Int)]
  | 11, x, w => ∃ g, x = .pointer (some ⟨g, 0, none⟩) ∧ m ≤ g ∧ Blk w g #[.int .u32 0, .string ⟨#[]⟩, .int .u32 0, .int .i64 0] 43
  | _ + 12, _, _ => True
theorem phiSg_mono (m rc pm : Nat) (ra da : Option Addr) (r d : List UInt8) : ∀ i x w w', phiSg m rc pm ra da r d i x w → Below w.heap.size w w' → phiSg m rc pm ra da r d i x w'
  | 0, _, _, _, h, _ => h
  | 1, _, _, _, h, _ => h
  | 2, _, _, _, h, _ => h
  | 3, _, _, _, h, _ => h
  | 4, _, _, _, h, _ => h
  | 5, _, _, _, h, _ => h
  | 6, _, _, _, h, _ => h
  | 7, _, _, _, h, _ => h
  | 8, _, _, _, h, _ => h
  | 9, _, _, _, h, _ => h
  | 10, _, _, _, h, _ => h
  | 11, x, w, w', h, hbl => by obtain ⟨g, e, h1, h2⟩ := h; exact ⟨g, e, h1, h2.later hbl⟩
  | _ + 12, _, _, _, _, _ => trivial
theorem list12 : ∀ xs : List Value, xs.length = 12 → ∃ x0 x1 x2 x3 x4 x5 x6 x7 x8 x9 x10 x11, xs = [x0, x1, x2, x3, x4, x5, x6, x7, x8, x9, x10, x11]
  | [x0, x1, x2, x3, x4, x5, x6, x7, x8, x9, x10, x11], _ => ⟨_, _, _, _, _, _, _, _, _, _, _, _, rfl⟩
/-- What the slots of the region hold, whatever the order. -/
def phiFi (fb : Bool) (pm : Nat) (r d : List UInt8) : Nat → Value → World → Prop
  | 0, x, _ => x = .agg #[.int .u32 (w32 r 8 : Int), .string ⟨d.toArray⟩, .int .u32 (w32 r 20 : Int), .int .i64 (pm : Int)]
  | 1, x, _ => x = .agg #[.int .u32 (w32 r 8 : Int), .string ⟨d.toArray⟩, .int .u32 (w32 r 20 : Int), .int .i64 (pm : Int)]
  | 2, x, _ => x = .bool fb
  | _ + 3, _, _ => True
theorem phiFi_mono (fb : Bool) (pm : Nat) (r d : List UInt8) : ∀ i x w w', phiFi fb pm r d i x w → Below w.heap.size w w' → phiFi fb pm r d i x w'
  | 0, _, _, _, h, _ => h
  | 1, _, _, _, h, _ => h
  | 2, _, _, _, h, _ => h
  | _ + 3, _, _, _, _, _ => trivial
theorem list3 : ∀ xs : List Value, xs.length = 3 → ∃ x0 x1 x2, xs = [x0, x1, x2]
  | [x0, x1, x2], _ => ⟨_, _, _, rfl⟩
set_option maxRecDepth 20000 in
set_option maxHeartbeats 1000000 in
theorem segmentOf_no (w : World) (ao ra : Option Addr) (l r : List UInt8) (cap rc : Nat) (h : Row w ao l cap) (hl : l.length ≤ 20000) (hr : Row w ra r rc) (h32 : r.length = 32) (hno : ¬ w32 r 4 + w32 r 16 ≤ l.length) : Calls Try.prog 40 #[.slice ao l.length cap, .slice ra r.length rc] w fun e w' => e = .returned (.tuple #[sgV ⟨0, [], 0, 0⟩, .bool false]) ∧ Below w.heap.size w w' := by
  have hb0 := below_new w (.cells #[.int .u32 0, .string ⟨#[]⟩, .int .u32 0, .int .i64 0] 43)
  have H23 : Hid (∀ w1 (k : Nat) (z : Int), z = (k : Int) → Below w.heap.size w w1 → k ≤ 28 → Calls Try.prog 23 #[.slice ra r.length rc, .int .i64 z] w1 fun e w' => e = .returned (.int .u32 (w32 r k : Int)) ∧ Below w1.heap.size w1 w') := fun w1 k z hz hb hk => by subst hz; exact bword_any w1 _ r rc k (hr.later hb) (by omega) (by omega)
  have H4 := hidden (Hid.out H23 _ 4 4 rfl hb0 (by omega))
  have H39 : Hid (∀ w1, Below w.heap.size w w1 → Calls Try.prog 39 #[.slice ao l.length cap, .int .u32 (w32 r 4 : Int), .int .u32 (w32 r 16 : Int)] w1 fun e w' => w' = w1 ∧ e = .returned (.tuple #[.slice none 0 0, .bool false])) := fun w1 hb => ecut_no w1 ao l cap _ _ (h.later hb) hl (w32_lt _ _) (w32_lt _ _) hno
  have HB0 := hidden hb0
  have HZ := hidden (Blk.new w #[.int .u32 0, .string ⟨#[]⟩, .int .u32 0, .int .i64 0] 43)
  clear h hr hb0 h32
  generalize w32 r 4 = x at H4 H39 hno
  go_enter Try.func40, Try.ntmps40
  go_wp2_with (first | (go_at_call 23; first | (with_reducible refine (Hid.out H4).mono ?_; rintro e wa ⟨rfl, hb⟩; have HA := hidden (bthen (Hid.out HB0) hb); have HZA := hidden (Blk.later (Hid.out HZ) hb); have H16 := hidden (Hid.out H23 wa 16 16 rfl (Hid.out HA) (by omega)); clear hb H4) | (with_reducible refine (Hid.out H16).mono ?_; rintro e wb ⟨rfl, hb⟩; have HB := hidden (bthen (Hid.out HA) hb); have HZB := hidden (Blk.later (Hid.out HZA) hb); clear hb H16)) | (go_at_call 39; with_reducible refine (Hid.out H39 wb (Hid.out HB)).mono ?_; rintro e wd ⟨hww, rfl⟩; rw [hww]; clear hww wd; obtain ⟨z0, z1, z2, z3, hzl, hzf⟩ := zero_facts (Hid.out HZB)))
  have hf : Blk _ w.heap.size _ 43 := (Hid.out HZB).set4 (a' := .int .u32 0) (b' := .string ⟨#[]⟩) (c' := .int .u32 0) (d' := .int .i64 0)
  have hbf := below_set4 (a' := .int .u32 0) (b' := .string ⟨#[]⟩) (c' := .int .u32 0) (d' := .int .i64 0) (g := w.heap.size) (Hid.out HB) (Nat.le_refl _)
  generalize World.setCell _ _ _ = wf at hf hbf ⊢
  have f0 : wf.cell? ⟨w.heap.size, 0, none⟩ = some (.int .u32 0) := hf.cell rfl
  have f1 : wf.cell? ⟨w.heap.size, 1, none⟩ = some (.string ⟨#[]⟩) := hf.cell rfl
  have f2 : wf.cell? ⟨w.heap.size, 2, none⟩ = some (.int .u32 0) := hf.cell rfl
  have f3 : wf.cell? ⟨w.heap.size, 3, none⟩ = some (.int .i64 0) := hf.cell rfl
  exact bodyPost_ret (v := .tuple #[.agg #[.int .u32 0, .string ⟨#[]⟩, .int .u32 0, .int .i64 0], .bool false]) (by simp [results, Try.results40, go_sem, f0, f1, f2, f3]) rfl ⟨rfl, hbf⟩
set_option maxRecDepth 20000 in
set_option maxHeartbeats 2000000 in
theorem segmentOf_yes (w : World) (ao ra : Option Addr) (l r : List UInt8) (cap rc : Nat) (h : Row w ao l cap) (hl : l.length ≤ 20000) (hr : Row w ra r rc) (h32 : r.length = 32) (hyes : w32 r 4 + w32 r 16 ≤ l.length) : Calls Try.prog 40 #[.slice ao l.length cap, .slice ra r.length rc] w fun e w' => e = .returned (.tuple #[sgV (segR l r), .bool (fitsB (segR l r))]) ∧ Below w.heap.size w w' := by
  have hb0 := below_new w (.cells #[.int .u32 0, .string ⟨#[]⟩, .int .u32 0, .int .i64 0] 43)
  have H23 : Hid (∀ w1 (k : Nat) (z : Int), z = (k : Int) → Below w.heap.size w w1 → k ≤ 28 → Calls Try.prog 23 #[.slice ra r.length rc, .int .i64 z] w1 fun e w' => e = .returned (.int .u32 (w32 r k : Int)) ∧ Below w1.heap.size w1 w') := fun w1 k z hz hb hk => by subst hz; exact bword_any w1 _ r rc k (hr.later hb) (by omega) (by omega)
  have H4 := hidden (Hid.out H23 _ 4 4 rfl hb0 (by omega))
  obtain ⟨d, hd⟩ : ∃ d, d = (l.drop (w32 r 4)).take (w32 r 16) := ⟨_, rfl⟩
  have hdl : d.length = w32 r 16 := by rw [hd, List.length_take, List.length_drop]; omega
  obtain ⟨pm, hpm⟩ : ∃ pm, pm = w32 r 24 % 8 := ⟨_, rfl⟩
  have HPM := hidden hpm
  have hseg : segR l r = ⟨w32 r 8, d, w32 r 20, (pm : Int)⟩ := by rw [hd, hpm]; rfl
  have HSEG := hidden hseg
  have hfit : Fit (segR l r) := by rw [hseg]; exact ⟨w32_lt _ _, w32_lt _ _, by show d.length ≤ _; have := w32_lt r 16; omega⟩
  have H32 : Hid (∀ w1, Calls Try.prog 32 #[.agg #[.int .u32 (w32 r 8 : Int), .string ⟨d.toArray⟩, .int .u32 (w32 r 20 : Int), .int .i64 (pm : Int)]] w1 fun e w' => e = .returned (.bool (fitsB (segR l r))) ∧ Below w1.heap.size w1 w') := fun w1 => by have := fits_any _ hfit w1; rw [hseg] at this ⊢; exact this
  have H39 : Hid (∀ w1, Below w.heap.size w w1 → Calls Try.prog 39 #[.slice ao l.length cap, .int .u32 (w32 r 4 : Int), .int .u32 (w32 r 16 : Int)] w1 fun e w' => w' = w1 ∧ ∃ da, e = .returned (.tuple #[.slice da d.length d.length, .bool true]) ∧ Row w1 da d d.length) := fun w1 hb => by
    have := ecut_yes w1 ao l cap _ _ (h.later hb) hl (w32_lt r 4) (w32_lt r 16) hyes
    rw [← hd] at this
    have e : ((w32 r 16 : Nat) : Int) = (d.length : Int) := by rw [hdl]
    rw [← hdl] at this ⊢
    exact this
  have HB0 := hidden hb0
  have HZ := hidden (Blk.new w #[.int .u32 0, .string ⟨#[]⟩, .int .u32 0, .int .i64 0] 43)
  have HR0 := hidden hr
  have HL32 := hidden h32
  clear h hr hb0 hd hdl hseg hfit h32 hpm
  obtain ⟨fb, hfb⟩ : ∃ fb, fb = fitsB (segR l r) := ⟨_, rfl⟩
  rw [← hfb] at H32
  have HFB := hidden hfb
  clear hfb
  go_enter Try.func40, Try.ntmps40
  go_wp2_with (first | (go_at_call 23; first | (with_reducible refine (Hid.out H4).mono ?_; rintro e wa ⟨rfl, hb⟩; have HA := hidden (bthen (Hid.out HB0) hb); have HZA := hidden (Blk.later (Hid.out HZ) hb); have H16 := hidden (Hid.out H23 wa 16 16 rfl (Hid.out HA) (by omega)); clear hb H4) | (with_reducible refine (Hid.out H16).mono ?_; rintro e wb ⟨rfl, hb⟩; have HB := hidden (bthen (Hid.out HA) hb); have HZB := hidden (Blk.later (Hid.out HZA) hb); clear hb H16)) | (go_at_call 39; with_reducible refine (Hid.out H39 wb (Hid.out HB)).mono ?_; rintro e wd ⟨hww, da, rfl, hrd⟩; rw [hww]; have HRD := hidden hrd; have HRR := hidden (Row.later (Hid.out HR0) (Hid.out HB)); clear hww wd hrd))
  obtain ⟨m, hm⟩ : ∃ m, m = wb.heap.size := ⟨_, rfl⟩
  refine wp_region_head later_below 12 [21, 22, 23, 24, 25, 26, 27, 28, 29, 30, 31, 8] (phiSg m rc pm ra da r d) (by kernel_rfl) (by kernel_rfl) rfl (phiSg_mono m rc pm ra da r d) ?_ ?_
  · intro j hj xs w3 hxs hR hpre
    obtain ⟨x0, x1, x2, x3, x4, x5, x6, x7, x8, x9, x10, x11, rfl⟩ := list12 xs hxs
    have h32 := Hid.out HL32
    have hr3 := (Hid.out HRR).later hR
    have hd3 := ((Hid.out HRD).later hR).lies
    rcases (show j = 0 ∨ j = 1 ∨ j = 2 ∨ j = 3 ∨ j = 4 ∨ j = 5 ∨ j = 6 ∨ j = 7 ∨ j = 8 ∨ j = 9 ∨ j = 10 ∨ j = 11 by omega) with rfl | rfl | rfl | rfl | rfl | rfl | rfl | rfl | rfl | rfl | rfl | rfl
    · exact wpOp_run (.slice ra r.length rc) rfl (by kernel_rfl) (exec_move rfl (by kernel_rfl) w3) ⟨_, by kernel_rfl, rfl, Below.refl _ _⟩
    · have e0 : x0 = .slice ra r.length rc := hpre 0 (by kernel_rfl)
      subst e0
      refine wpOp_callR (R := fun u w4 => u = .int .u32 (w32 r 8 : Int) ∧ Below w3.heap.size w3 w4) 23 #[.slice ra r.length rc, .int .i64 8] rfl (by kernel_rfl) (by kernel_rfl) ((bword_any w3 ra r rc 8 hr3 (by omega) (by omega)).mono fun e w4 ⟨he, hb⟩ => ⟨_, he, rfl, hb⟩) ?_
      rintro u w4 ⟨hu, hb4⟩
      exact ⟨_, by kernel_rfl, hu, hb4⟩
    · exact wpOp_run (.slice da d.length d.length) rfl (by kernel_rfl) (exec_move rfl (by kernel_rfl) w3) ⟨_, by kernel_rfl, rfl, Below.refl _ _⟩
    · have e2 : x2 = .slice da d.length d.length := hpre 2 (by kernel_rfl)
      subst e2
      exact wpOp_run (.string ⟨d.toArray⟩) rfl (by kernel_rfl) (exec_str (c := d.length) d rfl (by kernel_rfl) w3 hd3) ⟨_, by kernel_rfl, rfl, Below.refl _ _⟩
    · exact wpOp_run (.slice ra r.length rc) rfl (by kernel_rfl) (exec_move rfl (by kernel_rfl) w3) ⟨_, by kernel_rfl, rfl, Below.refl _ _⟩
    · have e4 : x4 = .slice ra r.length rc := hpre 4 (by kernel_rfl)
      subst e4
      refine wpOp_callR (R := fun u w4 => u = .int .u32 (w32 r 20 : Int) ∧ Below w3.heap.size w3 w4) 23 #[.slice ra r.length rc, .int .i64 20] rfl (by kernel_rfl) (by kernel_rfl) ((bword_any w3 ra r rc 20 hr3 (by omega) (by omega)).mono fun e w4 ⟨he, hb⟩ => ⟨_, he, rfl, hb⟩) ?_
      rintro u w4 ⟨hu, hb4⟩
      exact ⟨_, by kernel_rfl, hu, hb4⟩
    · exact wpOp_run (.slice ra r.length rc) rfl (by kernel_rfl) (exec_move rfl (by kernel_rfl) w3) ⟨_, by kernel_rfl, rfl, Below.refl _ _⟩
    · have e6 : x6 = .slice ra r.length rc := hpre 6 (by kernel_rfl)
      subst e6
      refine wpOp_callR (R := fun u w4 => u = .int .u32 (w32 r 24 : Int) ∧ Below w3.heap.size w3 w4) 23 #[.slice ra r.length rc, .int .i64 24] rfl (by kernel_rfl) (by kernel_rfl) ((bword_any w3 ra r rc 24 hr3 (by omega) (by omega)).mono fun e w4 ⟨he, hb⟩ => ⟨_, he, rfl, hb⟩) ?_
      rintro u w4 ⟨hu, hb4⟩
      exact ⟨_, by kernel_rfl, hu, hb4⟩
    · have e7 : x7 = .int .u32 (w32 r 24 : Int) := hpre 7 (by kernel_rfl)
      subst e7
      refine wpOp_callR (R := fun u w4 => u = .int .u32 (pm : Int) ∧ Below w3.heap.size w3 w4) 47 #[.int .u32 (w32 r 24 : Int), .int .i64 0, .int .i64 3] rfl (by kernel_rfl) (by kernel_rfl) (by rw [Hid.out HPM, ← field_low]; exact (field_any (w32 r 24 : Int) 0 3 (by omega) (by have := w32_lt r 24; omega) w3).mono fun e w4 ⟨he, hb⟩ => ⟨_, he, rfl, by rw [hb]; exact Below.refl _ _⟩) ?_
      rintro u w4 ⟨hu, hb4⟩
      exact ⟨_, by kernel_rfl, hu, hb4⟩
    · have e8 : x8 = .int .u32 (pm : Int) := hpre 8 (by kernel_rfl)
      subst e8
      exact wpOp_run (.int .i64 (pm : Int)) rfl (by kernel_rfl) (exec_conv rfl (by kernel_rfl) (by have := Hid.out HPM; omega) w3) ⟨_, by kernel_rfl, rfl, Below.refl _ _⟩
    · have e1 : x1 = .int .u32 (w32 r 8 : Int) := hpre 1 (by kernel_rfl)
      subst e1
      have e3 : x3 = .string ⟨d.toArray⟩ := hpre 3 (by kernel_rfl)
      subst e3
      have e5 : x5 = .int .u32 (w32 r 20 : Int) := hpre 5 (by kernel_rfl)
      subst e5
      have e9 : x9 = .int .i64 (pm : Int) := hpre 9 (by kernel_rfl)
      subst e9
      exact wpOp_run (.agg #[.int .u32 (w32 r 8 : Int), .string ⟨d.toArray⟩, .int .u32 (w32 r 20 : Int), .int .i64 (pm : Int)]) rfl (by kernel_rfl) (exec_build 43 rfl (by kernel_rfl) w3 (build43 _ _ _ _ w3)) ⟨_, by kernel_rfl, rfl, Below.refl _ _⟩
    · exact wpOp_run (.pointer (some ⟨w3.heap.size, 0, none⟩)) rfl (by kernel_rfl) (exec_alloc43 rfl w3) ⟨_, by kernel_rfl, ⟨w3.heap.size, rfl, by rw [hm]; exact hR.size, Blk.new w3 _ 43⟩, below_new w3 _⟩
  · intro xs w3 hxs hR hall
    obtain ⟨x0, x1, x2, x3, x4, x5, x6, x7, x8, x9, x10, x11, rfl⟩ := list12 xs hxs
    have e0 : x0 = .slice ra r.length rc := hall 0 (by omega)
    subst e0
    have e1 : x1 = .int .u32 (w32 r 8 : Int) := hall 1 (by omega)
    subst e1
    have e2 : x2 = .slice da d.length d.length := hall 2 (by omega)
    subst e2
    have e3 : x3 = .string ⟨d.toArray⟩ := hall 3 (by omega)
    subst e3
    have e4 : x4 = .slice ra r.length rc := hall 4 (by omega)
    subst e4
    have e5 : x5 = .int .u32 (w32 r 20 : Int) := hall 5 (by omega)
    subst e5
    have e6 : x6 = .slice ra r.length rc := hall 6 (by omega)
    subst e6
    have e7 : x7 = .int .u32 (w32 r 24 : Int) := hall 7 (by omega)
    subst e7
    have e8 : x8 = .int .u32 (pm : Int) := hall 8 (by omega)
    subst e8
    have e9 : x9 = .int .i64 (pm : Int) := hall 9 (by omega)
    subst e9
    have e10 : x10 = .agg #[.int .u32 (w32 r 8 : Int), .string ⟨d.toArray⟩, .int .u32 (w32 r 20 : Int), .int .i64 (pm : Int)] := hall 10 (by omega)
    subst e10
    have f11 : ∃ g, x11 = .pointer (some ⟨g, 0, none⟩) ∧ m ≤ g ∧ Blk w3 g #[.int .u32 0, .string ⟨#[]⟩, .int .u32 0, .int .i64 0] 43 := hall 11 (by omega)
    obtain ⟨g11, e11, hm11, hg11⟩ := f11
    subst e11
    have HR5 := hidden hR
    have HG5 := hidden hg11
    have HM5 := hidden hm11
    clear hall hR hxs hg11 hm11
    simp only [slotsOn, putAll, List.set_cons_succ, List.set_cons_zero, List.drop_succ_cons, List.drop_zero]
    obtain ⟨y0, y1, y2, y3, hyl, hyf⟩ := zero_facts (Hid.out HG5)
    go_wp2
    have HZ5 := Hid.out HZB
    have hlt5 := HZ5.lt
    have hmg := Hid.out HM5
    have HG6 : Hid (Blk _ g11 _ 43) := (Hid.out HG5).set4 (a' := .int .u32 (w32 r 8 : Int)) (b' := .string ⟨d.toArray⟩) (c' := .int .u32 (w32 r 20 : Int)) (d' := .int .i64 (pm : Int))
    have HB6 : Hid (Below w.heap.size w _) := below_set4 (a' := .int .u32 (w32 r 8 : Int)) (b' := .string ⟨d.toArray⟩) (c' := .int .u32 (w32 r 20 : Int)) (d' := .int .i64 (pm : Int)) (g := g11) (bthen (Hid.out HB) (Hid.out HR5)) (by omega)
    have HZ6 : Hid (Blk _ w.heap.size _ 43) := ((((HZ5.later (Hid.out HR5)).other (g := g11) (j := 0) (v := .int .u32 (w32 r 8 : Int)) (by omega)).other (g := g11) (j := 1) (v := .string ⟨d.toArray⟩) (by omega)).other (g := g11) (j := 2) (v := .int .u32 (w32 r 20 : Int)) (by omega)).other (g := g11) (j := 3) (v := .int .i64 (pm : Int)) (by omega)
    clear y0 y1 y2 y3 hyl hyf HZ5 hmg hlt5 HG5 HM5
    generalize World.setCell _ _ _ = w6 at HG6 HB6 HZ6 ⊢
    refine wp_region_head later_below 3 [32, 33, 34] (phiFi fb pm r d) (by kernel_rfl) (by kernel_rfl) rfl (phiFi_mono fb pm r d) ?_ ?_
    · intro j hj xs w3 hxs hR hpre
      obtain ⟨x0, x1, x2, rfl⟩ := list3 xs hxs
      have hg3 : Blk w3 g11 #[.int .u32 (w32 r 8 : Int), .string ⟨d.toArray⟩, .int .u32 (w32 r 20 : Int), .int .i64 (pm : Int)] 43 := (Hid.out HG6).later hR
      rcases (show j = 0 ∨ j = 1 ∨ j = 2 by omega) with rfl | rfl | rfl
      · exact wpOp_run (.agg #[.int .u32 (w32 r 8 : Int), .string ⟨d.toArray⟩, .int .u32 (w32 r 20 : Int), .int .i64 (pm : Int)]) rfl (by kernel_rfl) (exec_load 43 rfl (by kernel_rfl) w3 (load43 hg3)) ⟨_, by kernel_rfl, rfl, Below.refl _ _⟩
      · exact wpOp_run (.agg #[.int .u32 (w32 r 8 : Int), .string ⟨d.toArray⟩, .int .u32 (w32 r 20 : Int), .int .i64 (pm : Int)]) rfl (by kernel_rfl) (exec_load 43 rfl (by kernel_rfl) w3 (load43 hg3)) ⟨_, by kernel_rfl, rfl, Below.refl _ _⟩
      · have e1 : x1 = .agg #[.int .u32 (w32 r 8 : Int), .string ⟨d.toArray⟩, .int .u32 (w32 r 20 : Int), .int .i64 (pm : Int)] := hpre 1 (by kernel_rfl)
        subst e1
        refine wpOp_callR (R := fun u w4 => u = .bool fb ∧ Below w3.heap.size w3 w4) 32 #[.agg #[.int .u32 (w32 r 8 : Int), .string ⟨d.toArray⟩, .int .u32 (w32 r 20 : Int), .int .i64 (pm : Int)]] rfl (by kernel_rfl) (by kernel_rfl) ((Hid.out H32 w3).mono fun e w4 ⟨he, hb⟩ => ⟨_, he, rfl, hb⟩) ?_
        rintro u w4 ⟨hu, hb4⟩
        exact ⟨_, by kernel_rfl, hu, hb4⟩
    · intro xs w3 hxs hR hall
      obtain ⟨x0, x1, x2, rfl⟩ := list3 xs hxs
      have e0 : x0 = .agg #[.int .u32 (w32 r 8 : Int), .string ⟨d.toArray⟩, .int .u32 (w32 r 20 : Int), .int .i64 (pm : Int)] := hall 0 (by omega)
      subst e0
      have e1 : x1 = .agg #[.int .u32 (w32 r 8 : Int), .string ⟨d.toArray⟩, .int .u32 (w32 r 20 : Int), .int .i64 (pm : Int)] := hall 1 (by omega)
      subst e1
      have e2 : x2 = .bool fb := hall 2 (by omega)
      subst e2
      have HR6 := hidden (bthen (Hid.out HB6) hR)
      have hz7 := (Hid.out HZ6).later hR
      have z0 : w3.cell? ⟨w.heap.size, 0, none⟩ = some (.int .u32 0) := hz7.cell rfl
      have z1 : w3.cell? ⟨w.heap.size, 1, none⟩ = some (.string ⟨#[]⟩) := hz7.cell rfl
      have z2 : w3.cell? ⟨w.heap.size, 2, none⟩ = some (.int .u32 0) := hz7.cell rfl
      have z3 : w3.cell? ⟨w.heap.size, 3, none⟩ = some (.int .i64 0) := hz7.cell rfl
      have hzl := hz7.lt
      have hzf : ∀ j, w3.frozen? ⟨w.heap.size, j, none⟩ = false := fun j => frozen_of_row _ _ _ _ _ hz7
      have HZ7 := hidden hz7
      clear hall hR hxs hz7
      simp only [slotsOn, putAll, List.set_cons_succ, List.set_cons_zero, List.drop_succ_cons, List.drop_zero]
      go_wp2
      have hf : Blk _ w.heap.size _ 43 := (Hid.out HZ7).set4 (a' := .int .u32 (w32 r 8 : Int)) (b' := .string ⟨d.toArray⟩) (c' := .int .u32 (w32 r 20 : Int)) (d' := .int .i64 (pm : Int))
      have hbf := below_set4 (a' := .int .u32 (w32 r 8 : Int)) (b' := .string ⟨d.toArray⟩) (c' := .int .u32 (w32 r 20 : Int)) (d' := .int .i64 (pm : Int)) (g := w.heap.size) (Hid.out HR6) (Nat.le_refl _)
      generalize World.setCell _ _ _ = wf at hf hbf ⊢
      have f0 : wf.cell? ⟨w.heap.size, 0, none⟩ = some (.int .u32 (w32 r 8 : Int)) := hf.cell rfl
      have f1 : wf.cell? ⟨w.heap.size, 1, none⟩ = some (.string ⟨d.toArray⟩) := hf.cell rfl
      have f2 : wf.cell? ⟨w.heap.size, 2, none⟩ = some (.int .u32 (w32 r 20 : Int)) := hf.cell rfl
      have f3 : wf.cell? ⟨w.heap.size, 3, none⟩ = some (.int .i64 (pm : Int)) := hf.cell rfl
      refine bodyPost_ret (v := .tuple #[.agg #[.int .u32 (w32 r 8 : Int), .string ⟨d.toArray⟩, .int .u32 (w32 r 20 : Int), .int .i64 (pm : Int)], .bool fb]) (by simp [results, Try.results40, go_sem, f0, f1, f2, f3]) rfl ⟨?_, hbf⟩
      rw [Hid.out HFB, Hid.out HSEG]
      rfl
theorem segmentOf_any (w : World) (ao ra : Option Addr) (l r : List UInt8) (cap rc : Nat) (h : Row w ao l cap) (hl : l.length ≤ 20000) (hr : Row w ra r rc) (h32 : r.length = 32) : Calls Try.prog 40 #[.slice ao l.length cap, .slice ra r.length rc] w fun e w' => ∃ s : Sg, e = .returned (.tuple #[.agg #[.int .u32 (s.at_ : Int), .string ⟨s.data.toArray⟩, .int .u32 (s.size : Int), .int .i64 s.perm], .bool (segOkR l r)]) ∧ (segOkR l r = true → s = segR l r) ∧ Below w.heap.size w w' := by
  by_cases hc : w32 r 4 + w32 r 16 ≤ l.length
  · have e : segOkR l r = fitsB (segR l r) := by unfold segOkR; rw [decide_eq_true hc, Bool.true_and]
    rw [e]
    exact (segmentOf_yes w ao ra l r cap rc h hl hr h32 hc).mono fun e w' ⟨h1, h2⟩ => ⟨segR l r, h1, fun _ => rfl, h2⟩
  · have e : segOkR l r = false := by unfold segOkR; rw [decide_eq_false hc, Bool.false_and]
    rw [e]
    exact (segmentOf_no w ao ra l r cap rc h hl hr h32 hc).mono fun e w' ⟨h1, h2⟩ => ⟨⟨0, [], 0, 0⟩, h1, fun h => by simp at h, h2⟩
end Go.Proofs.Ytjpmagekianpdaa
