/- What a memory's writing calls make of it. -/
import Derived.Test.YtpknppicamefgaaPTail
namespace Go.Proofs.Ytpknppicamefgaa
open Go.ChangeShapes Go.WideShapes Go.ChangeAt Go.RowKit
set_option linter.unusedVariables false
def fresh (mb bm most : Nat) : MS := { mb := mb, bm := bm, ks := [], hb := fun _ => 0, pb := fun _ => 0, data := fun _ => [], pm := fun _ => 0, on := fun _ => false, most := most, tv := .slice none 0 0, ts := [], c := 0 }
def cutMost (z : Int) : Nat := (min (max z 0) 64).toNat
theorem build67 (b : Nat) (x : Int) (w : World) : (Instr.build 85 #[(0, .map (some b)), (2, .int .i64 x)]).run Try.prog w = .ok (.agg #[.map (some b), .int .i64 0, .int .i64 x, .slice none 0 0]) w := by kernel_rfl
theorem fresh_memW (w : World) (most : Nat) (h : most ≤ 64) : MemW ((w.alloc (.map #[] 0)).alloc (.cells #[.map (some w.heap.size), .int .i64 0, .int .i64 (most : Int), .slice none 0 0] 85)) (fresh (w.heap.size + 1) w.heap.size most) := by
  have hs : (w.alloc (.map #[] 0)).heap.size = w.heap.size + 1 := by simp
  refine ⟨?_, ?_, by simp [fresh], by simp [fresh], by simp [fresh], by simp [fresh], by simp [fresh], by simp [fresh], by simp [fresh], by simp [fresh], h, World.ownsRow_nil _ _ _ _, by simp [fresh]⟩
  · have := heap_alloc_new (w.alloc (.map #[] 0)) (.cells #[.map (some w.heap.size), .int .i64 0, .int .i64 (most : Int), .slice none 0 0] 85)
    rw [hs] at this
    exact this
  · rw [heap_alloc_old _ _ (by rw [hs]; show w.heap.size < _; omega)]
    exact heap_alloc_new w _
theorem newMem_any (z : Int) (w : World) : Calls Try.prog 26 #[.int .i64 z] w fun e w' => e = .returned (.pointer (some ⟨w.heap.size + 1, 0, none⟩)) ∧ MemW w' (fresh (w.heap.size + 1) w.heap.size (cutMost z)) ∧ Below w.heap.size w w' := by
  have hmm := @run_makeMap Try.prog
  have hm := fresh_memW w (cutMost z) (by unfold cutMost; omega)
  have hv : Value.int .i64 ((cutMost z : Nat) : Int) = .int .i64 (min (max z 0) 64) := by unfold cutMost; congr 1; omega
  rw [hv] at hm
  have HM := hidden hm
  clear hm hv
  have hb := build67
  by_cases h0 : z < 0
  · have e : min (max z 0) 64 = 0 := by omega
    rw [e] at HM
    clear e
    go_enter Try.func26, Try.ntmps26
    go_wp2
    go_ret
    exact ⟨rfl, Hid.out HM, ((Below.refl _ w).alloc (Nat.le_refl _) _).alloc (by simp) _⟩
  · by_cases h1 : 64 < z
    · have e : min (max z 0) 64 = 64 := by omega
      rw [e] at HM
      clear e
      go_enter Try.func26, Try.ntmps26
      go_wp2
      go_ret
      exact ⟨rfl, Hid.out HM, ((Below.refl _ w).alloc (Nat.le_refl _) _).alloc (by simp) _⟩
    · have e : min (max z 0) 64 = z := by omega
      rw [e] at HM
      clear e
      go_enter Try.func26, Try.ntmps26
      go_wp2
      go_ret
      exact ⟨rfl, Hid.out HM, ((Below.refl _ w).alloc (Nat.le_refl _) _).alloc (by simp) _⟩
theorem load_at (w : World) (b j : Nat) (n : Int) (hc : w.cell? ⟨b, j, none⟩ = some (.int .i64 n)) : Calls Try.prog 78 #[.pointer (some ⟨b, j, none⟩)] w fun e w' => e = .returned (.int .i64 n) ∧ w' = w := by
  have hl := run_call_load (P := Try.prog) Try.func87 (by kernel_rfl) (by kernel_rfl) (by kernel_rfl) .i64 (by kernel_rfl) hc
  go_enter Try.func78, Try.ntmps78
  go_wp2
  go_ret
  exact ⟨rfl, rfl⟩
theorem add_at (w : World) (b j : Nat) (n : Int) (h0 : 0 ≤ n) (h1 : n < 9223372036854775807) (hc : w.cell? ⟨b, j, none⟩ = some (.int .i64 n)) (hz : w.frozen? ⟨b, j, none⟩ = false) : Calls Try.prog 88 #[.pointer (some ⟨b, j, none⟩), .int .i64 1] w fun e w' => e = .returned (.int .i64 (n + 1)) ∧ w' = w.setCell ⟨b, j, none⟩ (.int .i64 (n + 1)) := by
  have hl := run_call_add (P := Try.prog) Try.func100 (by kernel_rfl) (by kernel_rfl) (by kernel_rfl) .i64 (by kernel_rfl) (y := 1) (s := n + 1) hc hz (by simp [go_sem, IntKind.wrap_i64]; omega)
  go_enter Try.func88, Try.ntmps88
  go_wp2
  go_ret
  exact ⟨rfl, rfl⟩
/-- A page laid where there was none. -/
def MS.lay (s : MS) (k hbn pbn : Nat) (data : List UInt8) (perm : Int) (on : Bool) : MS :=
  { s with ks := s.ks ++ [k], hb := upd s.hb k hbn, pb := upd s.pb k pbn, data := upd s.data k data, pm := upd s.pm k perm, on := upd s.on k on }
/-- What is held, and its page, by themselves. -/
structure Held (w : World) (hbn pbn : Nat) (data : List UInt8) (perm : Int) (on : Bool) (c : Nat) : Prop where
  blk : w.heap[hbn]? = some (.cells #[.pointer (some ⟨pbn, 0, none⟩), .bool on] 75 (0, 0))
  page : ∃ n : Int, 0 ≤ n ∧ n ≤ (c : Int) ∧ Pg 109 w pbn data perm n
  perm : 0 ≤ perm ∧ perm < 8
theorem lay_memW {w : World} {s : MS} {k hbn pbn : Nat} {data : List UInt8} {perm : Int} {on : Bool} (h : MemW w s) (hk : k ∉ s.ks) (hkk : k < 4294967296 ∧ k % 256 = 0) (hH : Held w hbn pbn data perm on s.c) (hroom : s.ks.length < s.most) (hf1 : ¬ foot s hbn) (hf2 : ¬ foot s pbn) (m : Nat) :
    MemW ((ChangeMaps.setBlock (w.drewN m) s.bm (mapObj (upd s.hb k hbn) (s.ks ++ [k]))).setCell ⟨s.mb, 1, none⟩ (.int .i64 ((s.ks.length : Int) + 1))) (s.lay k hbn pbn data perm on) := by
  have hm : (w.drewN m).heap[s.bm]? = some (mapObj s.hb s.ks) := h.map
  have hset := MapKept.heap_set (o' := mapObj (upd s.hb k hbn) (s.ks ++ [k])) hm
  have hself : (ChangeMaps.setBlock (w.drewN m) s.bm (mapObj (upd s.hb k hbn) (s.ks ++ [k]))).heap[s.mb]? = some (.cells (mcells s) 85 (0, 0)) := (hset.2 s.mb h.mb_ne_bm).trans h.self
  have hne1 : hbn ≠ s.mb := fun e => hf1 (.inl e)
  have hne2 : hbn ≠ s.bm := fun e => hf1 (.inr (.inl e))
  have hne3 : pbn ≠ s.mb := fun e => hf2 (.inl e)
  have hne4 : pbn ≠ s.bm := fun e => hf2 (.inr (.inl e))
  have out : ∀ b, b ≠ s.mb → b ≠ s.bm → ((ChangeMaps.setBlock (w.drewN m) s.bm (mapObj (upd s.hb k hbn) (s.ks ++ [k]))).setCell ⟨s.mb, 1, none⟩ (.int .i64 ((s.ks.length : Int) + 1))).heap[b]? = w.heap[b]? := by
    intro b h1 h2
    rw [Below.heap_setCell _ _ _ _ h1]
    exact hset.2 b h2
  have hmem : ∀ j, j ∈ s.ks ++ [k] → j ≠ k → j ∈ s.ks := by
    intro j hj hne
    simpa [hne] using hj
  refine ⟨?_, ?_, ?_, ?_, ?_, ?_, ?_, ?_, ?_, ?_, h.great, ?_, h.few⟩
  · rw [show (s.lay k hbn pbn data perm on).mb = s.mb from rfl, heap_setCell_same _ _ _ _ _ _ hself]
    simp [mcells, MS.lay]
  · rw [show (s.lay k hbn pbn data perm on).bm = s.bm from rfl, Below.heap_setCell _ _ _ _ h.mb_ne_bm.symm]
    exact hset.1
  · intro j hj
    by_cases e : j = k
    · subst e
      rw [show (s.lay j hbn pbn data perm on).hb j = hbn from upd_same _ _ _, out _ hne1 hne2, hH.blk]
      simp [hcells, MS.lay, upd]
    · have hj' := hmem j hj e
      rw [show (s.lay k hbn pbn data perm on).hb j = s.hb j from upd_other _ _ e, out _ (h.hb_ne_mb hj') (h.hb_ne_bm hj'), h.held j hj']
      simp [hcells, MS.lay, upd, e]
  · intro j hj
    by_cases e : j = k
    · subst e
      obtain ⟨n, h0, h1, hp⟩ := hH.page
      refine ⟨n, h0, h1, ?_⟩
      simp only [MS.lay, upd_same]
      exact hp.same (out _ hne3 hne4)
    · have hj' := hmem j hj e
      obtain ⟨n, h0, h1, hp⟩ := h.page j hj'
      refine ⟨n, h0, h1, ?_⟩
      simp only [MS.lay, upd_other _ _ e]
      exact hp.same (out _ (h.pb_ne_mb hj') (h.pb_ne_bm hj'))
  · exact List.nodup_append.2 ⟨h.nodup, by simp, fun a ha b hb => by simp at hb; subst hb; intro e; exact hk (e ▸ ha)⟩
  · intro i hi j hj e
    by_cases e1 : i = k
    · by_cases e2 : j = k
      · rw [e1, e2]
      · subst e1
        simp only [MS.lay, upd_same, upd_other _ _ e2] at e
        exact absurd (.inr (.inr (.inl ⟨j, hmem j hj e2, e⟩))) hf1
    · by_cases e2 : j = k
      · subst e2
        simp only [MS.lay, upd_same, upd_other _ _ e1] at e
        exact absurd (.inr (.inr (.inl ⟨i, hmem i hi e1, e.symm⟩))) hf1
      · simp only [MS.lay, upd_other _ _ e1, upd_other _ _ e2] at e
        exact h.hbi i (hmem i hi e1) j (hmem j hj e2) e
  · intro i hi j hj e
    by_cases e1 : i = k
    · by_cases e2 : j = k
      · rw [e1, e2]
      · subst e1
        simp only [MS.lay, upd_same, upd_other _ _ e2] at e
        exact absurd (.inr (.inr (.inr (.inl ⟨j, hmem j hj e2, e⟩)))) hf2
    · by_cases e2 : j = k
      · subst e2
        simp only [MS.lay, upd_same, upd_other _ _ e1] at e
        exact absurd (.inr (.inr (.inr (.inl ⟨i, hmem i hi e1, e.symm⟩)))) hf2
      · simp only [MS.lay, upd_other _ _ e1, upd_other _ _ e2] at e
        exact h.pbi i (hmem i hi e1) j (hmem j hj e2) e
  · intro j hj
    by_cases e : j = k
    · rw [e]; exact hkk
    · exact h.key j (hmem j hj e)
  · intro j hj
    by_cases e : j = k
    · subst e
      simp only [MS.lay, upd_same]
      exact hH.perm
    · simp only [MS.lay, upd_other _ _ e]
      exact h.perm j (hmem j hj e)
  · simp only [MS.lay, List.length_append, List.length_singleton]
    omega
  · refine ownsRow_same h.touched fun g hg => ?_
    exact out g (h.tv_ne_mb hg) (h.tv_ne_bm hg)
theorem addPage_any (w : World) (s : MS) (a hbn pbn : Nat) (data : List UInt8) (perm : Int) (on : Bool) (h : MemW w s) (ha : a < 4294967296) (hk : pageOf a ∉ s.ks) (hH : Held w hbn pbn data perm on s.c) (hroom : s.ks.length < s.most) (hf1 : ¬ foot s hbn) (hf2 : ¬ foot s pbn) :
    Calls Try.prog 79 #[.pointer (some ⟨s.mb, 0, none⟩), .int .u32 (a : Int), .pointer (some ⟨hbn, 0, none⟩)] w fun e w' => e = .returned (.tuple #[]) ∧ MemW w' (s.lay (pageOf a) hbn pbn data perm on) ∧ Keep (fun b => b = s.mb ∨ b = s.bm) w w' := by
  have hc := h.cell0
  have hl := fun n => run_lay (w := w.drewN n) h.map hk hbn
  have H := fun w => hidden (first_any a ha w)
  have HF := fun m => hidden (lay_memW h hk ⟨Nat.lt_of_le_of_lt (pageOf_le a) ha, pageOf_mod a⟩ hH hroom hf1 hf2 m)
  have HK : Hid (∀ m, Keep (fun b => b = s.mb ∨ b = s.bm) w ((ChangeMaps.setBlock (w.drewN m) s.bm (mapObj (upd s.hb (pageOf a) hbn) (s.ks ++ [pageOf a]))).setCell ⟨s.mb, 1, none⟩ (.int .i64 ((s.ks.length : Int) + 1)))) := by
    intro m
    have h1 : Keep (· = s.bm) w (ChangeMaps.setBlock (w.drewN m) s.bm (mapObj (upd s.hb (pageOf a) hbn) (s.ks ++ [pageOf a]))) := ((Keep.refl (· = s.bm) w).drewN m).trans (keep_setBlock (w := w.drewN m) (o := mapObj s.hb s.ks) h.map _) (fun _ _ e => e)
    exact (h1.mono (fun _ _ e => .inr e)).trans (keep_setCell _ _ _ _) (fun _ _ e => .inl e)
  have hset : ∀ m, (ChangeMaps.setBlock (w.drewN m) s.bm (mapObj (upd s.hb (pageOf a) hbn) (s.ks ++ [pageOf a]))).heap[s.mb]? = some (.cells (mcells s) 85 (0, 0)) := fun m => ((MapKept.heap_set (w := w.drewN m) h.map).2 s.mb h.mb_ne_bm).trans h.self
  have HA := fun m => hidden (add_at (ChangeMaps.setBlock (w.drewN m) s.bm (mapObj (upd s.hb (pageOf a) hbn) (s.ks ++ [pageOf a]))) s.mb 1 (s.ks.length : Int) (by omega) (by have := h.room; have := h.great; omega) (by rw [cell_of_row _ _ _ _ _ _ (hset m)]; rfl) (frozen_of_row _ _ _ _ _ (hset m)))
  clear h hk ha hset
  generalize pageOf a = k at hl H HF HK HA
  go_enter Try.func79, Try.ntmps79
  go_wp2
  refine wp_region_tail 7 (by kernel_rfl) (by kernel_rfl) ?_
  simp only [List.take_succ_cons, List.take_zero, List.drop_succ_cons, List.drop_zero]
  repeat (go_big_quiet_step ((go_at_call 68; exact Calls.quiet_of_same (Hid.out (H _)))))
  refine wpQuiet_nil ?_
  rintro _ ⟨nq, rfl⟩
  go_wp2_with (go_at_call 88; refine (Hid.out (HA _)).mono ?_; rintro e w1 ⟨rfl, hww⟩; rw [hww]; clear hww w1)
  go_end0
  exact ⟨rfl, Hid.out (HF _), Hid.out HK _⟩
end Go.Proofs.Ytpknppicamefgaa
