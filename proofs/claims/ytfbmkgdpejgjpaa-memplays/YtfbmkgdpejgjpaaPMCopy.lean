/- Chapter 5's own Copy. -/
import Derived.Test.YtfbmkgdpejgjpaaPMOps
namespace Go.Proofs.Ytfbmkgdpejgjpaa
open Go.ChangeShapes Go.WideShapes Go.ChangeAt Go.RowKit
set_option linter.unusedVariables false
def OwnP (base : Nat) (l : List P5) (w : World) (v : Value) : Prop := w.ownsRow base 83 259 v l.length (cells5 l)
theorem OwnP.later {base : Nat} {l : List P5} {w w' : World} {v : Value} (h : OwnP base l w v) (hb : Below w.heap.size w w') : OwnP base l w' v := ownsRow_same h fun g hg => hb.block g (h.lt g hg).2
theorem OwnP.mono {base b2 : Nat} {l : List P5} {w : World} {v : Value} (h : OwnP base l w v) (hb : b2 ≤ base) : OwnP b2 l w v := by
  refine ⟨h.1, ?_⟩
  rcases h.2 with h | ⟨g, cap, cur, h1, h2, h3⟩
  · exact .inl h
  · exact .inr ⟨g, cap, cur, h1, Nat.le_trans hb h2, h3⟩
theorem OwnP.zero {base : Nat} {l : List P5} {w : World} {v : Value} (h : OwnP base l w v) : w.ownsRow 0 83 259 v l.length (cells5 l) := OwnP.mono h (Nat.zero_le _)
theorem OwnP.lt {base : Nat} {l : List P5} {w : World} {v : Value} (h : OwnP base l w v) (g : Nat) (hg : v.ownBlock = some g) : base ≤ g ∧ g < w.heap.size := World.ownsRow.lt h g hg
theorem build70 (most : Int) (a : Option Addr) (n c : Nat) (w : World) : (Instr.build 70 #[(0, .int .i64 most), (1, .slice a n c)]).run Try.prog w = .ok (.agg #[.int .i64 most, .slice a n c, .slice none 0 0]) w := by kernel_rfl
theorem cells5_one (l : List P5) : ∀ u ∈ cells5 l, u.oneCell' = true := by
  intro u hu
  simp only [cells5, List.mem_flatMap] at hu
  obtain ⟨p, _, hp⟩ := hu
  exact one5_one p u hp
theorem run_copy5 {w : World} {s : S5} {ty : TypeId} {ao : Option Addr} {cap : Nat} (h : M5 w s) (hv : s.vP = .slice ao s.l.length cap) :
    ∃ a' c' w', (Builtin.append_ #[68, 68] ty #[.slice none 0 0, .slice ao s.l.length cap]).run Try.prog w = .ok (.slice a' s.l.length c') w' ∧ OwnP w.heap.size s.l w' (.slice a' s.l.length c') ∧ Below w.heap.size w w' := by
  obtain ⟨i0, hi, hz0, hz1, hz2⟩ := info_parts info100
  by_cases hl : s.l = []
  · refine ⟨none, 0, w, ?_, by rw [hl]; exact World.ownsRow_nil _ _ _ _, Below.refl _ _⟩
    rw [hl]
    cases ao <;> simp [Builtin.append_, run_underlying Try.underlying68, sizeOf, typeInfo, hi, Builtin.lenOf, Builtin.firstCells, loadCells, loadCellsFrom]
  · have hpos : 0 < s.l.length := List.length_pos_iff.2 hl
    obtain ⟨g, off, cap', h0, hv', hlt, hth, hbg, hc⟩ := h.row (k := 0) hpos
    rw [hv] at hv'
    simp only [Value.slice.injEq, true_and] at hv'
    obtain ⟨rfl, rfl⟩ := hv'
    subst h0
    have hc2 : ∀ j u, (cells5 s.l)[j]? = some u → w.cell? ((⟨g, 0, none⟩ : Addr).add j) = some u := by
      intro j u hu
      have hj := (List.getElem?_eq_some_iff.1 hu).1
      rw [cells5_len h.fit] at hj
      have hd : j / 259 * 259 + j % 259 = j := by omega
      rw [← hd, cells5_get h.fit (j / 259) (j % 259) (by omega) (by omega)] at hu
      have := hc (j / 259) (j % 259) u (by omega) (by omega) hu
      rw [Addr.add_lit]
      have e : 0 + j = 0 + j / 259 * 259 + j % 259 := by omega
      rw [e]
      exact this
    have hfew := h.few
    obtain ⟨v', w', hr, h1, h2, _, hloc⟩ := run_append_own_at (P := Try.prog) w w.heap.size 68 ty 83 i0 _ 259 280 Try.underlying68 hi hz0 hz1 hz2 page0_size (by decide) (.slice none 0 0) 0 [] (World.ownsRow_nil _ _ _ _) ⟨g, 0, none⟩ s.l.length cap (cells5 s.l) (by rw [cells5_len h.fit]) hc2 (cells5_one _) (by unfold maxLen; omega) (by omega) (Nat.le_refl _)
    rw [Nat.zero_add, List.nil_append] at h1
    obtain ⟨a', c', rfl⟩ : ∃ a' c', v' = .slice a' s.l.length c' := by
      rcases h1.2 with ⟨e, hz⟩ | ⟨g, cap, cur, e, _⟩
      · omega
      · exact ⟨_, _, e⟩
    refine ⟨a', c', w', hr, h1, ?_⟩
    · exact (Keep.grown h2).below (Nat.le_refl _) fun b hb => by simp [Value.ownBlock] at hb
/-- What the slots of the region hold, whatever the order. -/
def phiCq (m most n cap base : Nat) (ao : Option Addr) (l : List P5) : Nat → Value → World → Prop
  | 0, x, _ => x = .pointer (some ⟨m, 0, none⟩)
  | 1, x, _ => x = .pointer (some ⟨m, 0, none⟩)
  | 2, x, _ => x = .pointer (some ⟨m, 0, none⟩)
  | 3, x, _ => x = .int .i64 (most : Int)
  | 4, x, _ => x = .pointer (some ⟨m, 0, none⟩)
  | 5, x, _ => x = .pointer (some ⟨m, 0, none⟩)
  | 6, x, _ => x = .pointer (some ⟨m, 1, none⟩)
  | 7, x, _ => x = .slice ao n cap
  | 8, x, w => ∃ a c, x = .slice a n c ∧ OwnP base l w (.slice a n c)
  | 9, x, w => ∃ a c, x = .agg #[.int .i64 (most : Int), .slice a n c, .slice none 0 0] ∧ OwnP base l w (.slice a n c)
  | 10, x, w => ∃ a c g, x = .pointer (some ⟨g, 0, none⟩) ∧ base ≤ g ∧ Blk w g #[.int .i64 (most : Int), .slice a n c, .slice none 0 0] 70 ∧ OwnP base l w (.slice a n c)
  | 11, x, w => ∃ a c g, x = .pointer (some ⟨g, 0, none⟩) ∧ base ≤ g ∧ Blk w g #[.int .i64 (most : Int), .slice a n c, .slice none 0 0] 70 ∧ OwnP base l w (.slice a n c)
  | _ + 12, _, _ => True
theorem phiCq_mono (m most n cap base : Nat) (ao : Option Addr) (l : List P5) : ∀ i x w w', phiCq m most n cap base ao l i x w → Below w.heap.size w w' → phiCq m most n cap base ao l i x w'
  | 0, _, _, _, h, _ => h
  | 1, _, _, _, h, _ => h
  | 2, _, _, _, h, _ => h
  | 3, _, _, _, h, _ => h
  | 4, _, _, _, h, _ => h
  | 5, _, _, _, h, _ => h
  | 6, _, _, _, h, _ => h
  | 7, _, _, _, h, _ => h
  | 8, x, w, w', h, hb => by obtain ⟨a, c, e, h⟩ := h; exact ⟨a, c, e, h.later hb⟩
  | 9, x, w, w', h, hb => by obtain ⟨a, c, e, h⟩ := h; exact ⟨a, c, e, h.later hb⟩
  | 10, x, w, w', h, hb => by obtain ⟨a, c, g, e, h1, h2, h3⟩ := h; exact ⟨a, c, g, e, h1, h2.later hb, h3.later hb⟩
  | 11, x, w, w', h, hb => by obtain ⟨a, c, g, e, h1, h2, h3⟩ := h; exact ⟨a, c, g, e, h1, h2.later hb, h3.later hb⟩
  | _ + 12, _, _, _, _, _ => trivial
theorem listQ12 : ∀ xs : List Value, xs.length = 12 → ∃ x0 x1 x2 x3 x4 x5 x6 x7 x8 x9 x10 x11, xs = [x0, x1, x2, x3, x4, x5, x6, x7, x8, x9, x10, x11]
  | [x0, x1, x2, x3, x4, x5, x6, x7, x8, x9, x10, x11], _ => ⟨_, _, _, _, _, _, _, _, _, _, _, _, rfl⟩
set_option maxRecDepth 20000 in
set_option maxHeartbeats 4000000 in
theorem M5.copyC {w : World} {s : S5} (h : M5 w s) : Calls Try.prog 22 #[.pointer (some ⟨s.m, 0, none⟩)] w fun e w' => ∃ t, e = .returned (.pointer (some ⟨t.m, 0, none⟩)) ∧ M5 w' t ∧ Below w.heap.size w w' ∧ (∀ b, foot5 t b → w.heap.size ≤ b) ∧ t.l = s.l ∧ t.most = s.most ∧ t.ts = [] := by
  obtain ⟨ao, cap, hv, hps⟩ := h.ps
  have HM := hidden h
  have HB0 := hidden (Below.refl w.heap.size w)
  have hlt := h.lt
  clear h hps
  go_enter Try.func22, Try.ntmps22
  go_wp2
  refine wp_region_on later_below [3, 4, 5, 6, 7, 8, 9, 10, 11, 12, 13, 2] 12 (phiCq s.m s.most s.l.length cap w.heap.size ao s.l) (by kernel_rfl) (by kernel_rfl) rfl rfl (phiCq_mono s.m s.most s.l.length cap w.heap.size ao s.l) ?_ ?_
  · intro j hj xs w3 hxs hR hpre
    obtain ⟨x0, x1, x2, x3, x4, x5, x6, x7, x8, x9, x10, x11, rfl⟩ := listQ12 xs hxs
    have hM3 := (Hid.out HM).later hR
    have hc0 : w3.cell? ⟨s.m, 0, none⟩ = some (.int .i64 (s.most : Int)) := hM3.self.cell rfl
    have hc1 : w3.cell? ⟨s.m, 1, none⟩ = some (.slice ao s.l.length cap) := by rw [hM3.cellP, hv]
    rcases (show j = 0 ∨ j = 1 ∨ j = 2 ∨ j = 3 ∨ j = 4 ∨ j = 5 ∨ j = 6 ∨ j = 7 ∨ j = 8 ∨ j = 9 ∨ j = 10 ∨ j = 11 by omega) with rfl | rfl | rfl | rfl | rfl | rfl | rfl | rfl | rfl | rfl | rfl | rfl
    · exact wpOp_run (.pointer (some ⟨s.m, 0, none⟩)) rfl (by kernel_rfl) (exec_move rfl (by kernel_rfl) w3) ⟨_, by kernel_rfl, rfl, Below.refl _ _⟩
    · have e0 : x0 = .pointer (some ⟨s.m, 0, none⟩) := hpre 0 (by kernel_rfl)
      subst e0
      exact wpOp_run (.pointer (some ⟨s.m, 0, none⟩)) rfl (by kernel_rfl) (by kernel_rfl) ⟨_, by kernel_rfl, rfl, Below.refl _ _⟩
    · have e1 : x1 = .pointer (some ⟨s.m, 0, none⟩) := hpre 1 (by kernel_rfl)
      subst e1
      exact wpOp_run (.pointer (some ⟨s.m, 0, none⟩)) rfl (by kernel_rfl) (by kernel_rfl) ⟨_, by kernel_rfl, rfl, Below.refl _ _⟩
    · have e2 : x2 = .pointer (some ⟨s.m, 0, none⟩) := hpre 2 (by kernel_rfl)
      subst e2
      exact wpOp_run (.int .i64 (s.most : Int)) rfl (by kernel_rfl) (exec_load 3 rfl (by kernel_rfl) w3 (load3 hc0)) ⟨_, by kernel_rfl, rfl, Below.refl _ _⟩
    · exact wpOp_run (.pointer (some ⟨s.m, 0, none⟩)) rfl (by kernel_rfl) (exec_move rfl (by kernel_rfl) w3) ⟨_, by kernel_rfl, rfl, Below.refl _ _⟩
    · have e4 : x4 = .pointer (some ⟨s.m, 0, none⟩) := hpre 4 (by kernel_rfl)
      subst e4
      exact wpOp_run (.pointer (some ⟨s.m, 0, none⟩)) rfl (by kernel_rfl) (by kernel_rfl) ⟨_, by kernel_rfl, rfl, Below.refl _ _⟩
    · have e5 : x5 = .pointer (some ⟨s.m, 0, none⟩) := hpre 5 (by kernel_rfl)
      subst e5
      exact wpOp_run (.pointer (some ⟨s.m, 1, none⟩)) rfl (by kernel_rfl) (by kernel_rfl) ⟨_, by kernel_rfl, rfl, Below.refl _ _⟩
    · have e6 : x6 = .pointer (some ⟨s.m, 1, none⟩) := hpre 6 (by kernel_rfl)
      subst e6
      exact wpOp_run (.slice ao s.l.length cap) rfl (by kernel_rfl) (exec_load 68 rfl (by kernel_rfl) w3 (load95 hc1)) ⟨_, by kernel_rfl, rfl, Below.refl _ _⟩
    · have e7 : x7 = .slice ao s.l.length cap := hpre 7 (by kernel_rfl)
      subst e7
      obtain ⟨a5, c5, w5, hrun, ho5, hb5⟩ := run_copy5 (ty := 68) hM3 hv
      exact wpOp_run (.slice a5 s.l.length c5) rfl (by kernel_rfl) (exec_app95 rfl (by kernel_rfl) (by kernel_rfl) hrun) ⟨_, by kernel_rfl, ⟨a5, c5, rfl, ho5.mono hR.size⟩, hb5⟩
    · have e3 : x3 = .int .i64 (s.most : Int) := hpre 3 (by kernel_rfl)
      subst e3
      have f8 : ∃ a c, x8 = .slice a s.l.length c ∧ OwnP w.heap.size s.l w3 (.slice a s.l.length c) := hpre 8 (by kernel_rfl)
      obtain ⟨a8, c8, e8, ho8⟩ := f8
      subst e8
      exact wpOp_run (.agg #[.int .i64 (s.most : Int), .slice a8 s.l.length c8, .slice none 0 0]) rfl (by kernel_rfl) (exec_build 70 rfl (by kernel_rfl) w3 (build70 _ _ _ _ w3)) ⟨_, by kernel_rfl, ⟨_, _, rfl, ho8⟩, Below.refl _ _⟩
    · have f9 : ∃ a c, x9 = .agg #[.int .i64 (s.most : Int), .slice a s.l.length c, .slice none 0 0] ∧ OwnP w.heap.size s.l w3 (.slice a s.l.length c) := hpre 9 (by kernel_rfl)
      obtain ⟨a9, c9, e9, ho9⟩ := f9
      subst e9
      exact wpOp_run (.pointer (some ⟨w3.heap.size, 0, none⟩)) rfl (by kernel_rfl) (exec_box 70 rfl (by kernel_rfl) w3) ⟨_, by kernel_rfl, ⟨a9, c9, _, rfl, hR.size, Blk.new w3 _ 70, ho9.later (below_new w3 _)⟩, below_new w3 _⟩
    · have f10 : ∃ a c g, x10 = .pointer (some ⟨g, 0, none⟩) ∧ w.heap.size ≤ g ∧ Blk w3 g #[.int .i64 (s.most : Int), .slice a s.l.length c, .slice none 0 0] 70 ∧ OwnP w.heap.size s.l w3 (.slice a s.l.length c) := hpre 10 (by kernel_rfl)
      obtain ⟨a10, c10, g10, e10, hg10, hk10, ho10⟩ := f10
      subst e10
      exact wpOp_run (.pointer (some ⟨g10, 0, none⟩)) rfl (by kernel_rfl) (by kernel_rfl) ⟨_, by kernel_rfl, ⟨a10, c10, g10, rfl, hg10, hk10, ho10⟩, Below.refl _ _⟩
  · intro xs w3 hxs hR hall
    obtain ⟨x0, x1, x2, x3, x4, x5, x6, x7, x8, x9, x10, x11, rfl⟩ := listQ12 xs hxs
    have f11 : ∃ a c g, x11 = .pointer (some ⟨g, 0, none⟩) ∧ w.heap.size ≤ g ∧ Blk w3 g #[.int .i64 (s.most : Int), .slice a s.l.length c, .slice none 0 0] 70 ∧ OwnP w.heap.size s.l w3 (.slice a s.l.length c) := hall 11 (by omega)
    obtain ⟨a11, c11, g11, e11, hg11, hk11, ho11⟩ := f11
    subst e11
    have HB := hidden hR
    have HK := hidden hk11
    have HO := hidden ho11
    have HG := hidden hg11
    clear hall hR hxs
    simp only [slotsOn, putAll, List.set_cons_succ, List.set_cons_zero]
    go_wp2
    go_ret
    refine ⟨⟨g11, s.most, s.l, .slice a11 s.l.length c11, [], .slice none 0 0⟩, rfl, ⟨Hid.out HK, (Hid.out HO).zero, World.ownsRow_nil _ _ _ _, (Hid.out HM).fit, (Hid.out HM).few⟩, bthen (Hid.out HB0) (Hid.out HB), ?_, rfl, rfl, rfl⟩
    rintro b (hb | hb | hb)
    · rw [hb]; exact Hid.out HG
    · exact ((Hid.out HO).lt b hb).1
    · simp [Value.ownBlock] at hb
end Go.Proofs.Ytfbmkgdpejgjpaa
