/- lay: the pages that so many bytes touch are mapped, or there is no room. -/
import Derived.Test.YtpknppicamefgaaPLay
import Derived.RangeFuncCalls
namespace Go.Proofs.Ytpknppicamefgaa
open Go.ChangeShapes Go.WideShapes Go.ChangeAt Go.RowKit Go.Shelf
set_option linter.unusedVariables false
attribute [local go_sem] Oper.semAt_some
/-- A memory on the way, beside five boxes of the call's own. -/
structure LI (w : World) (s : MS) (W : World) (s' : MS) : Prop where
  step : Step w s W s'
  bm : s'.bm = s.bm
  low : s.bm < w.heap.size
  own : ∀ b, w.heap.size ≤ b → b < w.heap.size + 5 → ¬ foot s' b
  big : w.heap.size + 5 ≤ W.heap.size
theorem LI.grown {w W W' : World} {s s' : MS} {row : Option Nat} (h : LI w s W s') (hg : W.grownBy W' row) (hr : ∀ r, row = some r → w.heap.size + 5 ≤ r ∧ ∃ o : Obj, W.heap[r]? = some o ∧ o.isCells = false) : LI w s W' s' := by
  have hm : MemW W' s' := h.step.mem.keep (Keep.grown hg) fun b hf e => by
    obtain ⟨h1, o, h2, h3⟩ := hr b e
    by_cases hb : b = s'.bm
    · have := h.low
      have := h.bm
      omega
    · obtain ⟨cs, T, fr, hc⟩ := foot_cells h.step.mem hf hb
      rw [hc] at h2
      cases h2
      simp [Obj.isCells] at h3
  exact ⟨⟨hm, h.step.keep.trans (Keep.grown hg) (fun b hb e => by have := (hr b e).1; omega), h.step.grow⟩, h.bm, h.low, h.own, Nat.le_trans h.big hg.size⟩
theorem LI.map {w W W' : World} {s s' s'' : MS} (h : LI w s W s') (k : Step W s' W' s'') (hb : s''.bm = s'.bm) : LI w s W' s'' :=
  ⟨h.step.trans k, hb.trans h.bm, h.low, fun b h1 h2 hf => by
    rcases k.grow b hf with h3 | h3
    · exact h.own b h1 h2 h3
    · have := h.big
      omega, Nat.le_trans h.big k.keep.size⟩
theorem LI.set {w W : World} {s s' : MS} (h : LI w s W s') (v : Value) : LI w s (W.setCell ⟨w.heap.size + 2, 0, none⟩ v) s' := by
  have hk := keep_setCell W (w.heap.size + 2) 0 v
  have hf := h.own (w.heap.size + 2) (by omega) (by omega)
  exact ⟨⟨h.step.mem.keep hk fun b hb e => hf (e ▸ hb), h.step.keep.trans hk (fun b hb e => by omega), h.step.grow⟩, h.bm, h.low, h.own, Nat.le_trans h.big hk.size⟩
theorem LI.from {w W W' : World} {s s' s'' : MS} (h : LI w s W s') (k : Step W s' W' s'') : KeepsFrom (w.heap.size + 5) W W' :=
  ⟨k.keep.size, fun b o hB hb ho => (k.keep.block b (Array.getElem?_eq_some_iff.1 hb).1 fun hf => by
    by_cases e : b = s'.bm
    · have := h.low
      have := h.bm
      omega
    · obtain ⟨cs, T, fr, hc⟩ := foot_cells h.step.mem hf e
      rw [hc] at hb
      cases hb
      simp [Obj.isCells] at ho).trans hb⟩
theorem LI.box {w W W' : World} {s s' s'' : MS} (h : LI w s W s') (k : Step W s' W' s'') {b : Nat} (h1 : w.heap.size ≤ b) (h2 : b < w.heap.size + 5) : W'.heap[b]? = W.heap[b]? :=
  k.keep.block b (by have := h.big; omega) (h.own b h1 h2)
theorem LI.kp {w W W' : World} {s s' s'' : MS} (h : LI w s W s') (k : Step W s' W' s'') : KpB (w.heap.size + 3) W W' := ⟨h.box k (by omega) (by omega), h.box k (by omega) (by omega)⟩
set_option maxRecDepth 100000 in
set_option maxHeartbeats 2000000 in
theorem lay_any (w : World) (s : MS) (a sz : Nat) (z : Int) (h : MemW w s) (hsz : a + sz ≤ 2147483648) : Calls Try.prog 27 #[.pointer (some ⟨s.mb, 0, none⟩), .int .u32 (a : Int), .int .u32 (sz : Int), .int .i64 z] w fun e w' => (∃ s', e = .returned (.int .i64 0) ∧ Laid s z (pgs a (cntP a sz)) s' ∧ Step w s w' s') ∨ (e = .returned (.int .i64 2) ∧ layKs s.most s.ks (pgs a (cntP a sz)) = none ∧ ∃ s', Step w s w' s') := by
  refine (callsIn_wide (n := 3)).1 ?_
  obtain ⟨W0, hW0⟩ : ∃ W0, ((((w.alloc (.cells #[.pointer (some ⟨s.mb, 0, none⟩)] 28)).alloc (.cells #[.int .i64 z] 3)).alloc (.cells #[.int .i64 0] 32)).alloc (.cells #[.int .u32 (a : Int)] 22)).alloc (.cells #[.int .u32 (sz : Int)] 22) = W0 := ⟨_, rfl⟩
  have hs0 : W0.heap.size = w.heap.size + 5 := by rw [← hW0]; simp
  have hb0 : Below w.heap.size w W0 := by
    rw [← hW0]
    exact (((((Below.refl _ w).alloc (Nat.le_refl _) _).alloc (by simp) _).alloc (by simp; omega) _).alloc (by simp; omega) _).alloc (by simp; omega) _
  have b0 : Boxed W0 w.heap.size 28 (.pointer (some ⟨s.mb, 0, none⟩)) := by
    rw [← hW0]; exact ((((Boxed.new w 28 _).alloc _).alloc _).alloc _).alloc _
  have b1 : Boxed W0 (w.heap.size + 1) 3 (.int .i64 z) := by
    have := Boxed.new (w.alloc (.cells #[.pointer (some ⟨s.mb, 0, none⟩)] 28)) 3 (.int .i64 z)
    rw [World.size_alloc] at this
    rw [← hW0]; exact (((this).alloc _).alloc _).alloc _
  have b2 : Boxed W0 (w.heap.size + 2) 32 (.int .i64 0) := by
    have := Boxed.new ((w.alloc (.cells #[.pointer (some ⟨s.mb, 0, none⟩)] 28)).alloc (.cells #[.int .i64 z] 3)) 32 (.int .i64 0)
    rw [World.size_alloc, World.size_alloc] at this
    rw [← hW0]; exact (this.alloc _).alloc _
  have b3 : Boxed W0 (w.heap.size + 3) 22 (.int .u32 (a : Int)) := by
    have := Boxed.new (((w.alloc (.cells #[.pointer (some ⟨s.mb, 0, none⟩)] 28)).alloc (.cells #[.int .i64 z] 3)).alloc (.cells #[.int .i64 0] 32)) 22 (.int .u32 (a : Int))
    rw [World.size_alloc, World.size_alloc, World.size_alloc] at this
    rw [← hW0]; exact this.alloc _
  have b4 : Boxed W0 (w.heap.size + 3 + 1) 22 (.int .u32 (sz : Int)) := by
    have := Boxed.new ((((w.alloc (.cells #[.pointer (some ⟨s.mb, 0, none⟩)] 28)).alloc (.cells #[.int .i64 z] 3)).alloc (.cells #[.int .i64 0] 32)).alloc (.cells #[.int .u32 (a : Int)] 22)) 22 (.int .u32 (sz : Int))
    rw [World.size_alloc, World.size_alloc, World.size_alloc, World.size_alloc] at this
    rw [← hW0]; exact this
  have hli : LI w s W0 s := ⟨Step.later h hb0, rfl, h.lt (.inr (.inl rfl)), fun b h1 h2 hf => by have := h.lt hf; omega, by omega⟩
  have HP := hidden (fun w1 => pages_any a sz w1)
  have HH := hidden h
  clear h
  refine callsIn_of_wp_marks Try.func27 rfl trivial ?_ rfl
  simp only [Try.ntmps27, List.size_toArray, List.length_cons, List.length_nil, Nat.reduceAdd, Nat.reduceSub, Array.replicate_succ, Array.replicate_zero, List.push_toArray, List.append_toArray, List.nil_append, List.cons_append]
  gi_wp2_with (refine ⟨trivial, ?_⟩; gi_at_call 56; refine (callsIn_wide.2 (Hid.out HP _)).mono ?_; rintro e w' ⟨rfl, rfl⟩)
  refine wpIn_rangeFunc_ownG rfl (by omega) (gf := 76) (lb := #[.pointer (some ⟨w.heap.size + 3, 0, none⟩), .pointer (some ⟨w.heap.size + 3 + 1, 0, none⟩)]) rfl trivial (enters_of Try.func76 (by kernel_rfl) rfl)
    (pages_stops Fence.wide (3 - 1) trivial rfl (by omega) (w.heap.size + 3) a sz hsz W0 b3 b4) kpB_t (kpB_b (by omega)) (Below.refl _ _) (fun _ => rfl)
    (fun pre W => ∃ s', Laid s z (vals pre) s' ∧ LI w s W s' ∧ Boxed W w.heap.size 28 (.pointer (some ⟨s.mb, 0, none⟩)) ∧ Boxed W (w.heap.size + 1) 3 (.int .i64 z) ∧ Boxed W (w.heap.size + 2) 32 (.int .i64 0))
    (fun c pre W => c = .ret ∧ layKs s.most s.ks (vals pre) = none ∧ ∃ s', LI w s W s' ∧ Boxed W (w.heap.size + 2) 32 (.int .i64 2))
    ?hI ?hIx ⟨s, Laid.refl s z, hli, b0, b1, b2⟩
    (fun x => { tmps := #[.pointer (some ⟨s.mb, 0, none⟩), .int .u32 (a : Int), .int .u32 (sz : Int), .int .i64 z, .pointer (some ⟨w.heap.size, 0, none⟩), undef, undef, .pointer (some ⟨w.heap.size + 1, 0, none⟩), .pointer (some ⟨w.heap.size + 2, 0, none⟩), .int .u32 (x.1 : Int), undef, .int .u32 (a : Int), .int .u32 (sz : Int), .func (.func 76) #[] #[.pointer (some ⟨w.heap.size + 3, 0, none⟩), .pointer (some ⟨w.heap.size + 3 + 1, 0, none⟩)], .int .u32 (x.1 : Int), undef, undef, undef, undef, undef, undef, undef], defers := [] }) ?assign ?body ?done ?stop
  case hI =>
    rintro pre W W' row ⟨s', h1, h2, h3, h4, h5⟩ hg hr
    have hne : ∀ b, b < w.heap.size + 5 → some b ≠ row := fun b hb e => by have := (hr b e.symm).1; omega
    exact ⟨s', h1, h2.grown hg (fun r e => by have := hr r e; exact ⟨by omega, this.2⟩), h3.kept hg (hne _ (by omega)), h4.kept hg (hne _ (by omega)), h5.kept hg (hne _ (by omega))⟩
  case hIx =>
    rintro c pre W W' row ⟨h0, h1, s', h2, h5⟩ hg hr
    have hne : ∀ b, b < w.heap.size + 5 → some b ≠ row := fun b hb e => by have := (hr b e.symm).1; omega
    exact ⟨h0, h1, s', h2.grown hg (fun r e => by have := hr r e; exact ⟨by omega, this.2⟩), h5.kept hg (hne _ (by omega))⟩
  case assign =>
    intro l x W K hK
    gi_wp2
    exact hK
  case body =>
    rintro l pre ⟨x, hx1, hx2⟩ W ⟨s', hL, hI, e0, e1, e2⟩ hlt
    have d0 := e0.cell
    have d1 := e1.cell
    have d2 := e2.cell
    have f2 := e2.frozen
    have hm := map_any W s' x z hI.step.mem hx1
    rw [hL.mb] at hm
    by_cases hr : x ∈ s'.ks ∨ s'.ks.length < s'.most
    · rw [mapErr_eq hx2, if_pos hr] at hm
      have hm2 : CallsIn Fence.wide (3 - 1 - 1 - 1) Try.prog 57 #[.pointer (some ⟨s.mb, 0, none⟩), .int .u32 (x : Int), .int .i64 z] W fun e w' => e = .returned (.int .i64 0) ∧ Step W s' w' (s'.mapped x z W.heap.size) := callsIn_wide.2 hm
      have HM := hidden hm2
      have HR := hidden hr
      have HL := hidden hL
      have HI := hidden hI
      have E0 := hidden e0
      have E1 := hidden e1
      have E2 := hidden e2
      clear hm hm2 hr hL hI e0 e1 e2
      gi_wp2_with (refine ⟨trivial, ?_⟩; gi_at_call 57; refine (CallsIn.inRound l (Hid.out HM)).mono ?_; rintro e w2 ⟨rfl, st⟩; have ST := hidden st; clear st)
      exact ⟨by rw [hs0]; exact (Hid.out HI).from (Hid.out ST), (Hid.out HI).kp (Hid.out ST), _, by rw [vals_snoc]; exact (Hid.out HL).map hx2 _ (Hid.out HR), (Hid.out HI).map (Hid.out ST) (mapped_bm _ _ _ _), ((Hid.out HI).box (Hid.out ST) (by omega) (by omega)).trans (Hid.out E0), ((Hid.out HI).box (Hid.out ST) (by omega) (by omega)).trans (Hid.out E1), ((Hid.out HI).box (Hid.out ST) (by omega) (by omega)).trans (Hid.out E2)⟩
    · rw [mapErr_eq hx2, if_neg hr] at hm
      have hm2 : CallsIn Fence.wide (3 - 1 - 1 - 1) Try.prog 57 #[.pointer (some ⟨s.mb, 0, none⟩), .int .u32 (x : Int), .int .i64 z] W fun e w' => e = .returned (.int .i64 2) ∧ Step W s' w' (s'.mapped x z W.heap.size) ∧ w'.cell? ⟨w.heap.size + 2, 0, none⟩ = some (.int .i64 0) ∧ w'.frozen? ⟨w.heap.size + 2, 0, none⟩ = false := by
        refine callsIn_wide.2 (hm.mono ?_)
        rintro e w' ⟨h1, h2⟩
        have e3 : Boxed w' (w.heap.size + 2) 32 (.int .i64 0) := (hI.box h2 (by omega) (by omega)).trans e2
        exact ⟨h1, h2, e3.cell, e3.frozen⟩
      have HM := hidden hm2
      have HR := hidden hr
      have HL := hidden hL
      have HI := hidden hI
      have E2 := hidden e2
      clear hm hm2 hr hL hI e0 e1 e2
      gi_wp2_with (refine ⟨trivial, ?_⟩; gi_at_call 57; refine (CallsIn.inRound l (Hid.out HM)).mono ?_; rintro e w2 ⟨rfl, st, g2, g3⟩; have ST := hidden st; clear st)
      have hI2 := (Hid.out HI).map (Hid.out ST) (mapped_bm _ _ _ _)
      have e3 : Boxed w2 (w.heap.size + 2) 32 (.int .i64 0) := ((Hid.out HI).box (Hid.out ST) (by omega) (by omega)).trans (Hid.out E2)
      exact ⟨by rw [hs0]; exact ((Hid.out HI).from (Hid.out ST)).trans ((KeepsOthers.setCell _ _ _).from _), rfl, by rw [vals_snoc]; exact (Hid.out HL).full (Hid.out HR), _, hI2.set _, e3.set _⟩
  case done =>
    rintro D ys W hD hys ⟨s', hL, hI, e0, e1, e2⟩ hK
    have d2 := e2.cell
    have f2 := e2.frozen
    have hI2 := hI.set (.int .i64 0)
    have e3 := e2.set (.int .i64 0)
    gi_wp2
    have hK' := (KeepsOthers.setCell W ⟨w.heap.size + 2, 0, none⟩ (.int .i64 0)).same D _ hK rfl
    refine ⟨by simp, .inl ⟨_, _, rfl, run_takeDeferred hK', ?_⟩⟩
    have hc5 := cell_kept e3.cell (grownBy_putObj' _ D (.deferred none)) (fun r e => by cases e; exact ⟨_, hK', rfl⟩)
    refine ⟨.int .i64 0, ?_, .inl ⟨s', rfl, by rw [← hys]; exact hL, (hI2.grown (grownBy_putObj' _ D (.deferred none)) (fun r e => by cases e; exact ⟨by omega, _, hK', rfl⟩)).step⟩⟩
    simp [results, Try.f27, go_sem, hc5]
  case stop =>
    rintro D c pre W hD hpre ⟨rfl, hn, s', hI, e2⟩ hK
    gi_wp2
    refine ⟨by simp, .inl ⟨_, _, rfl, run_takeDeferred hK, ?_⟩⟩
    have hc5 := cell_kept e2.cell (grownBy_putObj' _ D (.deferred none)) (fun r e => by cases e; exact ⟨_, hK, rfl⟩)
    refine ⟨.int .i64 2, ?_, .inr ⟨rfl, layKs_none hpre hn, s', (hI.grown (grownBy_putObj' _ D (.deferred none)) (fun r e => by cases e; exact ⟨by omega, _, hK, rfl⟩)).step⟩⟩
    simp [results, Try.f27, go_sem, hc5]
end Go.Proofs.Ytpknppicamefgaa
