/- What a memory's writing calls make of it. -/
import Derived.Test.YtodoenimlhldjaaBMAC
namespace Go.Proofs.Ytodoenimlhldjaa
open Go.ChangeShapes Go.WideShapes Go.ChangeAt Go.RowKit
set_option linter.unusedVariables false
def fresh (mb bm most : Nat) : MS := { mb := mb, bm := bm, ks := [], hb := fun _ => 0, pb := fun _ => 0, data := fun _ => [], pm := fun _ => 0, on := fun _ => false, most := most, tv := .slice none 0 0, ts := [], c := 0 }
def cutMost (z : Int) : Nat := (min (max z 0) 64).toNat
theorem build67 (b : Nat) (x : Int) (w : World) : (Instr.build 93 #[(0, .map (some b)), (2, .int .i64 x)]).run Try.prog w = .ok (.agg #[.map (some b), .int .i64 0, .int .i64 x, .slice none 0 0]) w := by kernel_rfl
theorem fresh_memW (w : World) (most : Nat) (h : most ≤ 64) : MemW ((w.alloc (.map #[] 0)).alloc (.cells #[.map (some w.heap.size), .int .i64 0, .int .i64 (most : Int), .slice none 0 0] 93)) (fresh (w.heap.size + 1) w.heap.size most) := by
  have hs : (w.alloc (.map #[] 0)).heap.size = w.heap.size + 1 := by simp
  refine ⟨?_, ?_, by simp [fresh], by simp [fresh], by simp [fresh], by simp [fresh], by simp [fresh], by simp [fresh], by simp [fresh], by simp [fresh], h, World.ownsRow_nil _ _ _ _, by simp [fresh]⟩
  · have := heap_alloc_new (w.alloc (.map #[] 0)) (.cells #[.map (some w.heap.size), .int .i64 0, .int .i64 (most : Int), .slice none 0 0] 93)
    rw [hs] at this
    exact this
  · rw [heap_alloc_old _ _ (by rw [hs]; show w.heap.size < _; omega)]
    exact heap_alloc_new w _
theorem newMem_any (z : Int) (w : World) : Calls Try.prog 26 #[.int .i64 z] w fun e w' => e = .returned (.pointer (some ⟨w.heap.size + 1, 0, none⟩)) ∧ MemW w' (fresh (w.heap.size + 1) w.heap.size (cutMost z)) ∧ Below w.heap.size w w' := by
  have hmm := @run_makeMap Try.prog
  have hm := fresh_memW w (cutMost z) (by unfold cutMost; omega)
  have hv : Value.int .i64 ((cutMost z : Nat) : Int) = .int .i64 (min (max z 0) 64) := by unfold cutMost; congr 1; omega
  rw [hv] at hm
  have HM := hidden hm
  clear hm hv
  have hb := build67
  by_cases h0 : z < 0
  · have e : min (max z 0) 64 = 0 := by omega
    rw [e] at HM
    clear e
    go_enter Try.func26, Try.ntmps26
    go_wp2
    go_ret
    exact ⟨rfl, Hid.out HM, ((Below.refl _ w).alloc (Nat.le_refl _) _).alloc (by simp) _⟩
  · by_cases h1 : 64 < z
    · have e : min (max z 0) 64 = 64 := by omega
      rw [e] at HM
      clear e
      go_enter Try.func26, Try.ntmps26
      go_wp2
      go_ret
      exact ⟨rfl, Hid.out HM, ((Below.refl _ w).alloc (Nat.le_refl _) _).alloc (by simp) _⟩
    · have e : min (max z 0) 64 = z := by omega
      rw [e] at HM
      clear e
      go_enter Try.func26, Try.ntmps26
      go_wp2
      go_ret
      exact ⟨rfl, Hid.out HM, ((Below.refl _ w).alloc (Nat.le_refl _) _).alloc (by simp) _⟩
theorem load_at (w : World) (b j : Nat) (n : Int) (hc : w.cell? ⟨b, j, none⟩ = some (.int .i64 n)) : Calls Try.prog 56 #[.pointer (some ⟨b, j, none⟩)] w fun e w' => e = .returned (.int .i64 n) ∧ w' = w := by
  have hl := run_call_load (P := Try.prog) Try.func75 (by kernel_rfl) (by kernel_rfl) (by kernel_rfl) .i64 (by kernel_rfl) hc
  go_enter Try.func56, Try.ntmps56
  go_wp2
  go_ret
  exact ⟨rfl, rfl⟩
theorem add_at (w : World) (b j : Nat) (n : Int) (h0 : 0 ≤ n) (h1 : n < 9223372036854775807) (hc : w.cell? ⟨b, j, none⟩ = some (.int .i64 n)) (hz : w.frozen? ⟨b, j, none⟩ = false) : Calls Try.prog 76 #[.pointer (some ⟨b, j, none⟩), .int .i64 1] w fun e w' => e = .returned (.int .i64 (n + 1)) ∧ w' = w.setCell ⟨b, j, none⟩ (.int .i64 (n + 1)) := by
  have hl := run_call_add (P := Try.prog) Try.func84 (by kernel_rfl) (by kernel_rfl) (by kernel_rfl) .i64 (by kernel_rfl) (y := 1) (s := n + 1) hc hz (by simp [go_sem, IntKind.wrap_i64]; omega)
  go_enter Try.func76, Try.ntmps76
  go_wp2
  go_ret
  exact ⟨rfl, rfl⟩
/-- A page laid where there was none. -/
def MS.lay (s : MS) (k hbn pbn : Nat) (data : List UInt8) (perm : Int) (on : Bool) : MS :=
  { s with ks := s.ks ++ [k], hb := upd s.hb k hbn, pb := upd s.pb k pbn, data := upd s.data k data, pm := upd s.pm k perm, on := upd s.on k on }
/-- What is held, and its page, by themselves. -/
structure Held (w : World) (hbn pbn : Nat) (data : List UInt8) (perm : Int) (on : Bool) (c : Nat) : Prop where
  blk : w.heap[hbn]? = some (.cells #[.pointer (some ⟨pbn, 0, none⟩), .bool on] 107 (0, 0))
  page : ∃ n : Int, 0 ≤ n ∧ n ≤ (c : Int) ∧ Pg 127 w pbn data perm n
  perm : 0 ≤ perm ∧ perm < 8
theorem lay_memW {w : World} {s : MS} {k hbn pbn : Nat} {data : List UInt8} {perm : Int} {on : Bool} (h : MemW w s) (hk : k ∉ s.ks) (hkk : k < 4294967296 ∧ k % 256 = 0) (hH : Held w hbn pbn data perm on s.c) (hroom : s.ks.length < s.most) (hf1 : ¬ foot s hbn) (hf2 : ¬ foot s pbn) (m : Nat) :
    MemW ((ChangeMaps.setBlock (w.drewN m) s.bm (mapObj (upd s.hb k hbn) (s.ks ++ [k]))).setCell ⟨s.mb, 1, none⟩ (.int .i64 ((s.ks.length : Int) + 1))) (s.lay k hbn pbn data perm on) := by
  have hm : (w.drewN m).heap[s.bm]? = some (mapObj s.hb s.ks) := h.map
  have hset := MapKept.heap_set (o' := mapObj (upd s.hb k hbn) (s.ks ++ [k])) hm
  have hself : (ChangeMaps.setBlock (w.drewN m) s.bm (mapObj (upd s.hb k hbn) (s.ks ++ [k]))).heap[s.mb]? = some (.cells (mcells s) 93 (0, 0)) := (hset.2 s.mb h.mb_ne_bm).trans h.self
  have hne1 : hbn ≠ s.mb := fun e => hf1 (.inl e)
  have hne2 : hbn ≠ s.bm := fun e => hf1 (.inr (.inl e))
  have hne3 : pbn ≠ s.mb := fun e => hf2 (.inl e)
  have hne4 : pbn ≠ s.bm := fun e => hf2 (.inr (.inl e))
  have out : ∀ b, b ≠ s.mb → b ≠ s.bm → ((ChangeMaps.setBlock (w.drewN m) s.bm (mapObj (upd s.hb k hbn) (s.ks ++ [k]))).setCell ⟨s.mb, 1, none⟩ (.int .i64 ((s.ks.length : Int) + 1))).heap[b]? = w.heap[b]? := by
    intro b h1 h2
    rw [Below.heap_setCell _ _ _ _ h1]
    exact hset.2 b h2
  have hmem : ∀ j, j ∈ s.ks ++ [k] → j ≠ k → j ∈ s.ks := by
    intro j hj hne
    simpa [hne] using hj
  refine ⟨?_, ?_, ?_, ?_, ?_, ?_, ?_, ?_, ?_, ?_, h.great, ?_, h.few⟩
  · rw [show (s.lay k hbn pbn data perm on).mb = s.mb from rfl, heap_setCell_same _ _ _ _ _ _ hself]
    simp [mcells, MS.lay]
  · rw [show (s.lay k hbn pbn data perm on).bm = s.bm from rfl, Below.heap_setCell _ _ _ _ h.mb_ne_bm.symm]
    exact hset.1
  · intro j hj
    by_cases e : j = k
    · subst e
      rw [show (s.lay j hbn pbn data perm on).hb j = hbn from upd_same _ _ _, out _ hne1 hne2, hH.blk]
      simp [hcells, MS.lay, upd]
    · have hj' := hmem j hj e
      rw [show (s.lay k hbn pbn data perm on).hb j = s.hb j from upd_other _ _ e, out _ (h.hb_ne_mb hj') (h.hb_ne_bm hj'), h.held j hj']
      simp [hcells, MS.lay, upd, e]
  · intro j hj
    by_cases e : j = k
    · subst e
      obtain ⟨n, h0, h1, hp⟩ := hH.page
      refine ⟨n, h0, h1, ?_⟩
      simp only [MS.lay, upd_same]
      exact hp.same (out _ hne3 hne4)
    · have hj' := hmem j hj e
      obtain ⟨n, h0, h1, hp⟩ := h.page j hj'
      refine ⟨n, h0, h1, ?_⟩
      simp only [MS.lay, upd_other _ _ e]
      exact hp.same (out _ (h.pb_ne_mb hj') (h.pb_ne_bm hj'))
  · exact List.nodup_append.2 ⟨h.nodup, by simp, fun a ha b hb => by simp at hb; subst hb; intro e; exact hk (e ▸ ha)⟩
  · intro i hi j hj e
    by_cases e1 : i = k
    · by_cases e2 : j = k
      · rw [e1, e2]
      · subst e1
        simp only [MS.lay, upd_same, upd_other _ _ e2] at e
        exact absurd (.inr (.inr (.inl ⟨j, hmem j hj e2, e⟩))) hf1
    · by_cases e2 : j = k
      · subst e2
        simp only [MS.lay, upd_same, upd_other _ _ e1] at e
        exact absurd (.inr (.inr (.inl ⟨i, hmem i hi e1, e.symm⟩))) hf1
      · simp only [MS.lay, upd_other _ _ e1, upd_other _ _ e2] at e
        exact h.hbi i (hmem i hi e1) j (hmem j hj e2) e
  · intro i hi j hj e
    by_cases e1 : i = k
    · by_cases e2 : j = k
      · rw [e1, e2]
      · subst e1
        simp only [MS.lay, upd_same, upd_other _ _ e2] at e
        exact absurd (.inr (.inr (.inr (.inl ⟨j, hmem j hj e2, e⟩)))) hf2
    · by_cases e2 : j = k
      · subst e2
        simp only [MS.lay, upd_same, upd_other _ _ e1] at e
        exact absurd (.inr (.inr (.inr (.inl ⟨i, hmem i hi e1, e.symm⟩)))) hf2
      · simp only [MS.lay, upd_other _ _ e1, upd_other _ _ e2] at e
        exact h.pbi i (hmem i hi e1) j (hmem j hj e2) e
  · intro j hj
    by_cases e : j = k
    · rw [e]; exact hkk
    · exact h.key j (hmem j hj e)
  · intro j hj
    by_cases e : j = k
    · subst e
      simp only [MS.lay, upd_same]
      exact hH.perm
    · simp only [MS.lay, upd_other _ _ e]
      exact h.perm j (hmem j hj e)
  · simp only [MS.lay, List.length_append, List.length_singleton]
    omega
  · refine ownsRow_same h.touched fun g hg => ?_
    exact out g (h.tv_ne_mb hg) (h.tv_ne_bm hg)
theorem addPage_any (w : World) (s : MS) (a hbn pbn : Nat) (data : List UInt8) (perm : Int) (on : Bool) (h : MemW w s) (ha : a < 4294967296) (hk : pageOf a ∉ s.ks) (hH : Held w hbn pbn data perm on s.c) (hroom : s.ks.length < s.most) (hf1 : ¬ foot s hbn) (hf2 : ¬ foot s pbn) :
    Calls Try.prog 57 #[.pointer (some ⟨s.mb, 0, none⟩), .int .u32 (a : Int), .pointer (some ⟨hbn, 0, none⟩)] w fun e w' => e = .returned (.tuple #[]) ∧ MemW w' (s.lay (pageOf a) hbn pbn data perm on) ∧ Keep (fun b => b = s.mb ∨ b = s.bm) w w' := by
  have hc := h.cell0
  have hl := fun n => run_lay (w := w.drewN n) h.map hk hbn
  have H := fun w => hidden (first_any a ha w)
  have HF := fun m => hidden (lay_memW h hk ⟨Nat.lt_of_le_of_lt (pageOf_le a) ha, pageOf_mod a⟩ hH hroom hf1 hf2 m)
  have HK : Hid (∀ m, Keep (fun b => b = s.mb ∨ b = s.bm) w ((ChangeMaps.setBlock (w.drewN m) s.bm (mapObj (upd s.hb (pageOf a) hbn) (s.ks ++ [pageOf a]))).setCell ⟨s.mb, 1, none⟩ (.int .i64 ((s.ks.length : Int) + 1)))) := by
    intro m
    have h1 : Keep (· = s.bm) w (ChangeMaps.setBlock (w.drewN m) s.bm (mapObj (upd s.hb (pageOf a) hbn) (s.ks ++ [pageOf a]))) := ((Keep.refl (· = s.bm) w).drewN m).trans (keep_setBlock (w := w.drewN m) (o := mapObj s.hb s.ks) h.map _) (fun _ _ e => e)
    exact (h1.mono (fun _ _ e => .inr e)).trans (keep_setCell _ _ _ _) (fun _ _ e => .inl e)
  have hset : ∀ m, (ChangeMaps.setBlock (w.drewN m) s.bm (mapObj (upd s.hb (pageOf a) hbn) (s.ks ++ [pageOf a]))).heap[s.mb]? = some (.cells (mcells s) 93 (0, 0)) := fun m => ((MapKept.heap_set (w := w.drewN m) h.map).2 s.mb h.mb_ne_bm).trans h.self
  have HA := fun m => hidden (add_at (ChangeMaps.setBlock (w.drewN m) s.bm (mapObj (upd s.hb (pageOf a) hbn) (s.ks ++ [pageOf a]))) s.mb 1 (s.ks.length : Int) (by omega) (by have := h.room; have := h.great; omega) (by rw [cell_of_row _ _ _ _ _ _ (hset m)]; rfl) (frozen_of_row _ _ _ _ _ (hset m)))
  clear h hk ha hset
  generalize pageOf a = k at hl H HF HK HA
  go_enter Try.func57, Try.ntmps57
  go_wp2
  refine wp_region_tail 7 (by kernel_rfl) (by kernel_rfl) ?_
  simp only [List.take_succ_cons, List.take_zero, List.drop_succ_cons, List.drop_zero]
  repeat (go_big_quiet_step ((go_at_call 74; exact Calls.quiet_of_same (Hid.out (H _)))))
  refine wpQuiet_nil ?_
  rintro _ ⟨nq, rfl⟩
  go_wp2_with (go_at_call 76; refine (Hid.out (HA _)).mono ?_; rintro e w1 ⟨rfl, hww⟩; rw [hww]; clear hww w1)
  go_end0
  exact ⟨rfl, Hid.out (HF _), Hid.out HK _⟩
end Go.Proofs.Ytodoenimlhldjaa
namespace Go.Proofs.Ytodoenimlhldjaa
open Go.ChangeShapes Go.WideShapes Go.ChangeAt Go.RowKit
set_option linter.unusedVariables false
theorem Pg.drewN {T : TypeId} {w : World} {b : Nat} {l : List UInt8} {p n : Int} (h : Pg T w b l p n) (m : Nat) : Pg T (w.drewN m) b l p n := h.same rfl
/-- What a page may be, and what it may be besides. -/
def orP (p z : Int) : Int := bits .or .i64 p z % 8
def MS.also (s : MS) (k : Nat) (z : Int) : MS := { s with pm := upd s.pm k (orP (s.pm k) z) }
theorem also_memW {w w' : World} {s : MS} {k : Nat} {z : Int} (h : MemW w s) (hk : k ∈ s.ks) (hw : w' = w.setCell ⟨s.pb k, 256, none⟩ (.int .i64 (orP (s.pm k) z))) : MemW w' (s.also k z) ∧ Keep (· = s.pb k) w w' := by
  subst hw
  have out : ∀ b, b ≠ s.pb k → (w.setCell ⟨s.pb k, 256, none⟩ (.int .i64 (orP (s.pm k) z))).heap[b]? = w.heap[b]? := fun b hb => Below.heap_setCell _ _ _ _ hb
  refine ⟨⟨(out _ (h.pb_ne_mb hk).symm).trans h.self, (out _ (h.pb_ne_bm hk).symm).trans h.map, fun j hj => (out _ (h.pb_ne_hb hk hj).symm).trans (h.held j hj), fun j hj => ?_, h.nodup, h.hbi, h.pbi, h.key, fun j hj => ?_, h.room, h.great, ownsRow_same h.touched fun g hg => out g (h.tv_ne_pb hg hk), h.few⟩, keep_setCell _ _ _ _⟩
  · obtain ⟨n, h0, h1, hp⟩ := h.page j hj
    refine ⟨n, h0, h1, ?_⟩
    by_cases e : j = k
    · subst e
      simp only [MS.also, upd_same]
      exact hp.setPerm _
    · simp only [MS.also, upd_other _ _ e]
      exact hp.same (out _ fun e' => e (h.pbi j hj k hk e'))
  · by_cases e : j = k
    · subst e
      simp only [MS.also, upd_same, orP]
      exact ⟨Int.emod_nonneg _ (by omega), Int.emod_lt_of_pos _ (by omega)⟩
    · simp only [MS.also, upd_other _ _ e]
      exact h.perm j hj
theorem map_in (w : World) (s : MS) (a : Nat) (z : Int) (h : MemW w s) (ha : a < 4294967296) (hk : pageOf a ∈ s.ks) : Calls Try.prog 27 #[.pointer (some ⟨s.mb, 0, none⟩), .int .u32 (a : Int), .int .i64 z] w fun e w' => e = .returned (.int .i64 0) ∧ MemW w' (s.also (pageOf a) z) ∧ Keep (· = s.pb (pageOf a)) w w' := by
  have H := hidden (find_in w s a h ha hk)
  obtain ⟨c, _, _, hp⟩ := h.page _ hk
  have HC : Hid (∀ w1 n, w1 = w.drewN n → w1.cell? ⟨s.hb (pageOf a), 0, none⟩ = some (.pointer (some ⟨s.pb (pageOf a), 0, none⟩)) ∧ Pg 127 w1 (s.pb (pageOf a)) (s.data (pageOf a)) (s.pm (pageOf a)) c) := by
    intro w1 n e
    subst e
    exact ⟨h.held0 hk, hp.same rfl⟩
  have HE : Hid (∀ w1 w2 n m, w1 = w.drewN n → w2 = (w1.drewN m).setCell ⟨s.pb (pageOf a), 256, none⟩ (.int .i64 (orP (s.pm (pageOf a)) z)) → MemW w2 (s.also (pageOf a) z) ∧ Keep (· = s.pb (pageOf a)) w w2) := by
    intro w1 w2 n m e1 e2
    subst e1
    have := also_memW ((h.drewN n).drewN m) hk e2
    exact ⟨this.1, (((Keep.refl _ w).drewN n).drewN m).trans this.2 fun _ _ e => e⟩
  clear h hk ha hp
  generalize pageOf a = k at H HC HE
  unfold orP at HE
  generalize s.pm k = p at HC HE
  generalize hv : bits .or .i64 p z = v at HE
  go_enter Try.func27, Try.ntmps27
  go_wp2_with (go_at_call 53; refine (Hid.out H).mono ?_; rintro e w1 ⟨rfl, n, hww⟩; obtain ⟨hc, hp1⟩ := Hid.out HC w1 n hww; have HP := hidden hp1; have HW := hidden hww; clear hww hp1 HC)
  refine wp_region_tail 11 (by kernel_rfl) (by kernel_rfl) ?_
  simp only [List.take_succ_cons, List.take_zero, List.drop_succ_cons, List.drop_zero]
  repeat (go_big_quiet_step ((go_at_call 54; exact Calls.quiet_of_same (perm_any _ _ _ _ _ (Pg.drewN (Hid.out HP) _)))))
  refine wpQuiet_nil ?_
  rintro _ ⟨nq, rfl⟩
  go_wp2_with (go_at_call 55; refine (setPerm_any _ _ _ _ _ _ (Pg.drewN (Hid.out HP) _)).mono ?_; rintro e w2 ⟨rfl, hww⟩; have HE2 := hidden (Hid.out HE w1 w2 n nq (Hid.out HW) hww); clear hww)
  go_ret
  exact ⟨rfl, Hid.out HE2⟩
theorem map_full (w : World) (s : MS) (a : Nat) (z : Int) (h : MemW w s) (ha : a < 4294967296) (hk : pageOf a ∉ s.ks) (hroom : ¬ s.ks.length < s.most) : Calls Try.prog 27 #[.pointer (some ⟨s.mb, 0, none⟩), .int .u32 (a : Int), .int .i64 z] w fun e w' => e = .returned (.int .i64 2) ∧ ∃ n, w' = w.drewN n := by
  have H := hidden (find_out w s a h ha hk)
  have hr : (s.most : Int) ≤ (s.ks.length : Int) := by omega
  have HC : Hid (∀ w1 n, w1 = w.drewN n → w1.cell? ⟨s.mb, 1, none⟩ = some (.int .i64 (s.ks.length : Int)) ∧ w1.cell? ⟨s.mb, 2, none⟩ = some (.int .i64 (s.most : Int))) := by
    intro w1 n e
    subst e
    exact ⟨h.cell1, h.cell2⟩
  clear h hk ha hroom
  generalize (s.ks.length : Int) = x at hr HC
  generalize (s.most : Int) = y at hr HC
  go_enter Try.func27, Try.ntmps27
  go_wp2_with (go_at_call 53; refine (Hid.out H).mono ?_; rintro e w1 ⟨rfl, n, hww⟩; obtain ⟨hc1, hc2⟩ := Hid.out HC w1 n hww; have HW := hidden hww; clear hww HC)
  go_quiet ((go_at_call 56; exact Calls.quiet_of_same (load_at _ _ _ _ hc1)))
  go_wp2
  go_ret
  exact ⟨rfl, drewN_two (Hid.out HW) _⟩
theorem build75 (b : Nat) (w : World) : (Instr.build 107 #[(0, .pointer (some ⟨b, 0, none⟩))]).run Try.prog w = .ok (.agg #[.pointer (some ⟨b, 0, none⟩), .bool false]) w := by kernel_rfl
theorem held_new (w1 : World) (z : Int) (c : Nat) : Held ((w1.alloc (.cells (pcells zeros (z % 8) 0) 127)).alloc (.cells #[.pointer (some ⟨w1.heap.size, 0, none⟩), .bool false] 107)) (w1.heap.size + 1) w1.heap.size zeros (z % 8) false c := by
  have hs : (w1.alloc (.cells (pcells zeros (z % 8) 0) 127)).heap.size = w1.heap.size + 1 := by simp
  refine ⟨?_, ⟨0, by omega, by omega, ?_⟩, Int.emod_nonneg _ (by omega), Int.emod_lt_of_pos _ (by omega)⟩
  · have := heap_alloc_new (w1.alloc (.cells (pcells zeros (z % 8) 0) 127)) (.cells #[.pointer (some ⟨w1.heap.size, 0, none⟩), .bool false] 107)
    rw [hs] at this
    exact this
  · exact (pg_new 127 w1 zeros (z % 8) 0 zeros_len).later ((Below.refl _ _).alloc (Nat.le_refl _) _)
theorem map_new (w : World) (s : MS) (a : Nat) (z : Int) (h : MemW w s) (ha : a < 4294967296) (hk : pageOf a ∉ s.ks) (hroom : s.ks.length < s.most) : Calls Try.prog 27 #[.pointer (some ⟨s.mb, 0, none⟩), .int .u32 (a : Int), .int .i64 z] w fun e w' => e = .returned (.int .i64 0) ∧ MemW w' (s.lay (pageOf a) (w.heap.size + 1) w.heap.size zeros (z % 8) false) ∧ Keep (fun b => b = s.mb ∨ b = s.bm) w w' := by
  have H := hidden (find_out w s a h ha hk)
  have hr : ¬ (s.most : Int) ≤ (s.ks.length : Int) := by omega
  have HC : Hid (∀ w1 n, w1 = w.drewN n → w1.cell? ⟨s.mb, 1, none⟩ = some (.int .i64 (s.ks.length : Int)) ∧ w1.cell? ⟨s.mb, 2, none⟩ = some (.int .i64 (s.most : Int))) := by
    intro w1 n e
    subst e
    exact ⟨h.cell1, h.cell2⟩
  have HA : Hid (∀ w1 n m, w1 = w.drewN n → Calls Try.prog 57 #[.pointer (some ⟨s.mb, 0, none⟩), .int .u32 (a : Int), .pointer (some ⟨w1.heap.size + 1, 0, none⟩)] (((w1.drewN m).alloc (.cells (pcells zeros (z % 8) 0) 127)).alloc (.cells #[.pointer (some ⟨w1.heap.size, 0, none⟩), .bool false] 107)) fun e w' => e = .returned (.tuple #[]) ∧ MemW w' (s.lay (pageOf a) (w.heap.size + 1) w.heap.size zeros (z % 8) false) ∧ Keep (fun b => b = s.mb ∨ b = s.bm) w w') := by
    intro w1 n m e
    subst e
    have hb : Below w.heap.size w (((w.drewN n).drewN m).alloc (.cells (pcells zeros (z % 8) 0) 127)) := (below_drewN (below_drewN (Below.refl _ w) n) m).alloc (Nat.le_refl _) _
    have hb2 : Below w.heap.size w ((((w.drewN n).drewN m).alloc (.cells (pcells zeros (z % 8) 0) 127)).alloc (.cells #[.pointer (some ⟨(w.drewN n).heap.size, 0, none⟩), .bool false] 107)) := hb.alloc hb.size _
    refine (addPage_any _ s a (w.heap.size + 1) w.heap.size zeros (z % 8) false (h.later hb2) ha hk (held_new ((w.drewN n).drewN m) z s.c) hroom (fun hf => ?_) (fun hf => ?_)).mono ?_
    · have := h.lt hf; omega
    · have := h.lt hf; omega
    · rintro e w' ⟨he, hm, hkp⟩
      exact ⟨he, hm, (Keep.of_below (F := fun b => b = s.mb ∨ b = s.bm) hb2).trans hkp fun _ _ e => e⟩
  clear h hk ha hroom
  have hb := build75
  generalize hx : (s.ks.length : Int) = x at hr HC
  generalize (s.most : Int) = y at hr HC
  clear hx
  go_enter Try.func27, Try.ntmps27
  go_wp2_with (go_at_call 53; refine (Hid.out H).mono ?_; rintro e w1 ⟨rfl, n, hww⟩; obtain ⟨hc1, hc2⟩ := Hid.out HC w1 n hww; have HW := hidden hww; clear hww HC)
  go_quiet ((go_at_call 56; exact Calls.quiet_of_same (load_at _ _ _ _ hc1)))
  go_wp2_with (first | (go_at_call 58; refine (new_any z _).mono ?_; rintro e w2 ⟨rfl, hww⟩; rw [hww]; clear hww w2) | (go_at_call 57; refine (Hid.out HA w1 n nq (Hid.out HW)).mono ?_; rintro e w2 ⟨rfl, hm2, hk2⟩; have HM2 := hidden hm2; have HK2 := hidden hk2; clear hm2 hk2))
  go_ret
  exact ⟨rfl, Hid.out HM2, Hid.out HK2⟩
end Go.Proofs.Ytodoenimlhldjaa
namespace Go.Proofs.Ytodoenimlhldjaa
open Go.ChangeShapes Go.WideShapes Go.ChangeAt Go.RowKit
set_option linter.unusedVariables false
def MS.watch (s : MS) (k : Nat) (b : Bool) : MS := { s with on := upd s.on k b }
theorem watch_memW {w w' : World} {s : MS} {k : Nat} {b : Bool} (h : MemW w s) (hk : k ∈ s.ks) (hw : w' = w.setCell ⟨s.hb k, 1, none⟩ (.bool b)) : MemW w' (s.watch k b) ∧ Keep (· = s.hb k) w w' := by
  subst hw
  have out : ∀ q, q ≠ s.hb k → (w.setCell ⟨s.hb k, 1, none⟩ (.bool b)).heap[q]? = w.heap[q]? := fun q hq => Below.heap_setCell _ _ _ _ hq
  refine ⟨⟨(out _ (h.hb_ne_mb hk).symm).trans h.self, (out _ (h.hb_ne_bm hk).symm).trans h.map, fun j hj => ?_, fun j hj => ?_, h.nodup, h.hbi, h.pbi, h.key, h.perm, h.room, h.great, ownsRow_same h.touched fun g hg => out g (h.tv_ne_hb hg hk), h.few⟩, keep_setCell _ _ _ _⟩
  · by_cases e : j = k
    · subst e
      rw [show (s.watch j b).hb j = s.hb j from rfl, heap_setCell_same _ _ _ _ _ _ (h.held j hj)]
      simp [hcells, MS.watch, upd]
    · rw [show (s.watch k b).hb j = s.hb j from rfl, out _ fun e' => e (h.hbi j hj k hk e'), h.held j hj]
      simp [hcells, MS.watch, upd, e]
  · obtain ⟨n, h0, h1, hp⟩ := h.page j hj
    exact ⟨n, h0, h1, hp.same (out _ (h.pb_ne_hb hj hk))⟩
theorem watch_in (w : World) (s : MS) (a : Nat) (b : Bool) (h : MemW w s) (ha : a < 4294967296) (hk : pageOf a ∈ s.ks) : Calls Try.prog 29 #[.pointer (some ⟨s.mb, 0, none⟩), .int .u32 (a : Int), .bool b] w fun e w' => e = .returned (.tuple #[]) ∧ MemW w' (s.watch (pageOf a) b) ∧ Keep (· = s.hb (pageOf a)) w w' := by
  have H := hidden (find_in w s a h ha hk)
  have HC : Hid (∀ w1 n, w1 = w.drewN n → w1.cell? ⟨s.hb (pageOf a), 1, none⟩ = some (.bool (s.on (pageOf a))) ∧ w1.frozen? ⟨s.hb (pageOf a), 1, none⟩ = false) := by
    intro w1 n e
    subst e
    exact ⟨h.held1 hk, h.heldThaw hk 1⟩
  have HE : Hid (∀ w1 n, w1 = w.drewN n → MemW (w1.setCell ⟨s.hb (pageOf a), 1, none⟩ (.bool b)) (s.watch (pageOf a) b) ∧ Keep (· = s.hb (pageOf a)) w (w1.setCell ⟨s.hb (pageOf a), 1, none⟩ (.bool b))) := by
    intro w1 n e
    subst e
    have := watch_memW (b := b) (h.drewN n) hk rfl
    exact ⟨this.1, ((Keep.refl _ w).drewN n).trans this.2 fun _ _ e => e⟩
  clear h hk ha
  generalize pageOf a = k at H HC HE
  go_enter Try.func29, Try.ntmps29
  go_wp2_with (go_at_call 53; refine (Hid.out H).mono ?_; rintro e w1 ⟨rfl, n, hww⟩; obtain ⟨hc1, hc2⟩ := Hid.out HC w1 n hww; have HW := hidden hww; clear hww HC)
  go_end0
  exact ⟨rfl, Hid.out HE _ _ (Hid.out HW)⟩
theorem watch_out (w : World) (s : MS) (a : Nat) (b : Bool) (h : MemW w s) (ha : a < 4294967296) (hk : pageOf a ∉ s.ks) : Calls Try.prog 29 #[.pointer (some ⟨s.mb, 0, none⟩), .int .u32 (a : Int), .bool b] w fun e w' => e = .returned (.tuple #[]) ∧ ∃ n, w' = w.drewN n := by
  have H := hidden (find_out w s a h ha hk)
  clear h hk ha
  go_enter Try.func29, Try.ntmps29
  go_wp2_with (go_at_call 53; refine (Hid.out H).mono ?_; rintro e w1 ⟨rfl, n, hww⟩; rw [hww]; clear hww w1)
  go_end0
  exact ⟨rfl, _, rfl⟩
def MS.told (s : MS) : MS := { s with tv := .slice none 0 0, ts := [] }
theorem told_memW {w : World} {s : MS} (h : MemW w s) : MemW (w.setCell ⟨s.mb, 3, none⟩ (.slice none 0 0)) s.told := by
  have out : ∀ q, q ≠ s.mb → (w.setCell ⟨s.mb, 3, none⟩ (.slice none 0 0)).heap[q]? = w.heap[q]? := fun q hq => Below.heap_setCell _ _ _ _ hq
  refine ⟨?_, (out _ h.mb_ne_bm.symm).trans h.map, fun j hj => (out _ (h.hb_ne_mb hj)).trans (h.held j hj), fun j hj => ?_, h.nodup, h.hbi, h.pbi, h.key, h.perm, h.room, h.great, World.ownsRow_nil _ _ _ _, Nat.zero_le _⟩
  · rw [show s.told.mb = s.mb from rfl, heap_setCell_same _ _ _ _ _ _ h.self]
    simp [mcells, MS.told]
  · obtain ⟨n, h0, h1, hp⟩ := h.page j hj
    exact ⟨n, h0, h1, hp.same (out _ (h.pb_ne_mb hj))⟩
theorem row_slice {w : World} {base size n : Nat} {e : TypeId} {v : Value} {xs : List Value} (h : w.ownsRow base e size v n xs) : ∃ ao n cap, v = .slice ao n cap := by
  rcases h.2 with ⟨e, _⟩ | ⟨g, cap, cur, e, _⟩
  · exact ⟨_, _, _, e⟩
  · exact ⟨_, _, _, e⟩
theorem tv_slice {w : World} {s : MS} (h : MemW w s) : ∃ ao n cap, s.tv = .slice ao n cap := by
  rcases h.touched.2 with ⟨e, _⟩ | ⟨g, cap, cur, e, _⟩
  · exact ⟨_, _, _, e⟩
  · exact ⟨_, _, _, e⟩
theorem touched_any (w : World) (s : MS) (h : MemW w s) : Calls Try.prog 19 #[.pointer (some ⟨s.mb, 0, none⟩)] w fun e w' => e = .returned s.tv ∧ MemW w' s.told ∧ Keep (· = s.mb) w w' := by
  obtain ⟨ao, n, cap, htv⟩ := tv_slice h
  have hc := h.cell3
  have hz := h.thaw 3
  have HM := hidden (told_memW h)
  have HK := hidden (keep_setCell w s.mb 3 (.slice none 0 0))
  rw [htv] at hc ⊢
  clear h htv
  go_enter Try.func19, Try.ntmps19
  go_wp2
  go_ret
  exact ⟨rfl, Hid.out HM, Hid.out HK⟩
/-- A byte set, and told where it is watched. -/
def MS.poke (s : MS) (a : Nat) (v : UInt8) (tv : Value) : MS :=
  { s with data := upd s.data (pageOf a) ((s.data (pageOf a)).set (a % 256) v), tv := tv, ts := if s.on (pageOf a) then s.ts ++ [a] else s.ts, c := s.c + 1 }
theorem setB_nat (l : List UInt8) (j : Nat) (v : UInt8) (h : j < 256) : setB l (j : Int) v = l.set j v := by
  unfold setB
  rw [if_pos ⟨by omega, by omega⟩, Int.toNat_natCast]
theorem cntB_nat (n : Int) (j : Nat) (h : j < 256) : cntB n (j : Int) = n + 1 := by
  unfold cntB
  rw [if_pos ⟨by omega, by omega⟩]
theorem poke_quiet {w w2 : World} {s : MS} {a : Nat} {v : UInt8} {n : Int} (h : MemW w s) (hk : pageOf a ∈ s.ks) (hon : s.on (pageOf a) = false) (h0 : 0 ≤ n) (hn : n ≤ (s.c : Int)) (hp : Pg 127 w2 (s.pb (pageOf a)) ((s.data (pageOf a)).set (a % 256) v) (s.pm (pageOf a)) (n + 1)) (ho : Only (s.pb (pageOf a)) w w2) : MemW w2 (s.poke a v s.tv) := by
  have out : ∀ q, q ≠ s.pb (pageOf a) → w2.heap[q]? = w.heap[q]? := fun q hq => ho.block q hq
  have hf := h.few
  refine ⟨(out _ (h.pb_ne_mb hk).symm).trans h.self, (out _ (h.pb_ne_bm hk).symm).trans h.map, fun j hj => (out _ (h.pb_ne_hb hk hj).symm).trans (h.held j hj), fun j hj => ?_, h.nodup, h.hbi, h.pbi, h.key, h.perm, h.room, h.great, ?_, ?_⟩
  · by_cases e : j = pageOf a
    · subst e
      refine ⟨n + 1, by omega, by simp only [MS.poke]; omega, ?_⟩
      simp only [MS.poke, upd_same]
      exact hp
    · obtain ⟨m, h0, h1, hq⟩ := h.page j hj
      refine ⟨m, h0, by simp only [MS.poke]; omega, ?_⟩
      simp only [MS.poke, upd_other _ _ e]
      exact hq.same (out _ fun e' => e (h.pbi j hj _ hk e'))
  · simp only [MS.poke, hon, Bool.false_eq_true, if_false]
    exact ownsRow_same h.touched fun g hg => out g (h.tv_ne_pb hg hk)
  · simp only [MS.poke, hon, Bool.false_eq_true, if_false]
    omega
theorem info27 : (Try.prog.info? 23).map (fun i => (i.zero, i.size, i.bytes)) = some (some (.int .u32 0), 1, 4) := by kernel_rfl
/-- The list of what was touched, grown, and laid down. -/
theorem poke_loud {w w2 w3 : World} {s : MS} {a : Nat} {v : UInt8} {n : Int} {tv : Value} (h : MemW w s) (hk : pageOf a ∈ s.ks) (hon : s.on (pageOf a) = true) (h0 : 0 ≤ n) (hn : n ≤ (s.c : Int)) (hp : Pg 127 w2 (s.pb (pageOf a)) ((s.data (pageOf a)).set (a % 256) v) (s.pm (pageOf a)) (n + 1)) (ho : Only (s.pb (pageOf a)) w w2)
    (hgr : w2.grownBy w3 s.tv.ownBlock) (hrow : w3.ownsRow 0 23 1 tv (s.ts.length + 1) (words s.ts ++ [.int .u32 (a : Int)])) (hloc : tv.ownBlock = s.tv.ownBlock ∨ ∃ b, w2.heap.size ≤ b ∧ tv.ownBlock = some b) : MemW (w3.setCell ⟨s.mb, 3, none⟩ tv) (s.poke a v tv) := by
  have hlt := fun b hb => h.lt (b := b) hb
  have hsz := ho.size
  have out : ∀ q, foot s q → q ≠ s.pb (pageOf a) → s.tv.ownBlock ≠ some q → w3.heap[q]? = w.heap[q]? := fun q hf hq ht => (hgr.block q (by rw [hsz]; exact hlt q hf) (fun e => ht e.symm)).trans (ho.block q hq)
  have out2 : ∀ q, q ≠ s.mb → (w3.setCell ⟨s.mb, 3, none⟩ tv).heap[q]? = w3.heap[q]? := fun q hq => Below.heap_setCell _ _ _ _ hq
  have hf := h.few
  have fmb : foot s s.mb := .inl rfl
  have hself : w3.heap[s.mb]? = some (.cells (mcells s) 93 (0, 0)) := (out _ fmb (h.pb_ne_mb hk).symm (fun e => h.tv_ne_mb e rfl)).trans h.self
  refine ⟨?_, ?_, ?_, fun j hj => ?_, h.nodup, h.hbi, h.pbi, h.key, h.perm, h.room, h.great, ?_, ?_⟩
  · rw [show (s.poke a v tv).mb = s.mb from rfl, heap_setCell_same _ _ _ _ _ _ hself]
    simp [mcells, MS.poke]
  · exact (out2 _ h.mb_ne_bm.symm).trans ((out _ (.inr (.inl rfl)) (h.pb_ne_bm hk).symm (fun e => h.tv_ne_bm e rfl)).trans h.map)
  · intro j hj
    exact (out2 _ (h.hb_ne_mb hj)).trans ((out _ (.inr (.inr (.inl ⟨j, hj, rfl⟩))) (h.pb_ne_hb hk hj).symm (fun e => h.tv_ne_hb e hj rfl)).trans (h.held j hj))
  · have fpb : foot s (s.pb j) := .inr (.inr (.inr (.inl ⟨j, hj, rfl⟩)))
    by_cases e : j = pageOf a
    · subst e
      refine ⟨n + 1, by omega, by simp only [MS.poke]; omega, ?_⟩
      simp only [MS.poke, upd_same]
      exact hp.same ((out2 _ (h.pb_ne_mb hj)).trans (hgr.block _ (by rw [hsz]; exact hlt _ fpb) (fun e => h.tv_ne_pb e.symm hj rfl)))
    · obtain ⟨m, h0, h1, hq⟩ := h.page j hj
      refine ⟨m, h0, by simp only [MS.poke]; omega, ?_⟩
      simp only [MS.poke, upd_other _ _ e]
      exact hq.same ((out2 _ (h.pb_ne_mb hj)).trans (out _ fpb (fun e' => e (h.pbi j hj _ hk e')) (fun e => h.tv_ne_pb e hj rfl)))
  · simp only [MS.poke, hon, if_true]
    rw [List.length_append, List.length_singleton, words_append]
    refine ownsRow_same hrow fun g hg => out2 g ?_
    rcases hloc with hl | ⟨b, hb, hl⟩
    · rw [hl] at hg
      exact h.tv_ne_mb hg
    · rw [hl] at hg
      obtain rfl : b = g := by simpa using hg
      have := hlt _ fmb
      omega
  · simp only [MS.poke, hon, if_true, List.length_append, List.length_singleton]
    omega
/-- The page's part of Poke: the byte is set. -/
theorem poke_set (w : World) (s : MS) (a : Nat) (v : UInt8) (h : MemW w s) (hk : pageOf a ∈ s.ks) (hc : s.c < 4611686018427387904) : ∃ n : Int, 0 ≤ n ∧ n ≤ (s.c : Int) ∧ ∀ m, Calls Try.prog 59 #[.pointer (some ⟨s.pb (pageOf a), 0, none⟩), .int .i64 ((a % 256 : Nat) : Int), .int .u8 (v.toNat : Int)] (w.drewN m) fun e w' =>
    e = .returned (.tuple #[]) ∧ Pg 127 w' (s.pb (pageOf a)) ((s.data (pageOf a)).set (a % 256) v) (s.pm (pageOf a)) (n + 1) ∧ Only (s.pb (pageOf a)) w w' := by
  obtain ⟨n, h0, h1, hp⟩ := h.page _ hk
  refine ⟨n, h0, h1, fun m => ?_⟩
  have hlt := Nat.mod_lt a (show 256 > 0 by omega)
  refine (setByte_any (w.drewN m) _ _ _ n ((a % 256 : Nat) : Int) v h0 (by omega) (hp.drewN m)).mono ?_
  rintro e w' ⟨he, hp', ho⟩
  rw [setB_nat _ _ _ hlt, cntB_nat _ _ hlt] at hp'
  exact ⟨he, hp', (show Only (s.pb (pageOf a)) w (w.drewN m) from ⟨rfl, rfl, rfl, rfl, fun _ _ => rfl⟩).trans ho⟩
theorem poke_out (w : World) (s : MS) (a : Nat) (v : UInt8) (h : MemW w s) (ha : a < 4294967296) (hk : pageOf a ∉ s.ks) : Calls Try.prog 28 #[.pointer (some ⟨s.mb, 0, none⟩), .int .u32 (a : Int), .int .u8 (v.toNat : Int)] w fun e w' => e = .returned (.bool false) ∧ ∃ n, w' = w.drewN n := by
  have H := hidden (find_out w s a h ha hk)
  clear h hk ha
  go_enter Try.func28, Try.ntmps28
  go_wp2_with (go_at_call 53; refine (Hid.out H).mono ?_; rintro e w1 ⟨rfl, n, hww⟩; rw [hww]; clear hww w1)
  go_ret
  exact ⟨rfl, _, rfl⟩
theorem poke_off (w : World) (s : MS) (a : Nat) (v : UInt8) (h : MemW w s) (ha : a < 4294967296) (hk : pageOf a ∈ s.ks) (hon : s.on (pageOf a) = false) (hcc : s.c < 4611686018427387904) : Calls Try.prog 28 #[.pointer (some ⟨s.mb, 0, none⟩), .int .u32 (a : Int), .int .u8 (v.toNat : Int)] w fun e w' => e = .returned (.bool true) ∧ MemW w' (s.poke a v s.tv) ∧ Keep (· = s.pb (pageOf a)) w w' := by
  have H := hidden (find_in w s a h ha hk)
  have H3 := fun w => hidden (within_any a ha w)
  obtain ⟨n, h0, h1, hset⟩ := poke_set w s a v h hk hcc
  have HC : Hid (∀ w1 q, w1 = w.drewN q → w1.cell? ⟨s.hb (pageOf a), 0, none⟩ = some (.pointer (some ⟨s.pb (pageOf a), 0, none⟩)) ∧ ∀ m, Hid (Calls Try.prog 59 #[.pointer (some ⟨s.pb (pageOf a), 0, none⟩), .int .i64 ((a % 256 : Nat) : Int), .int .u8 (v.toNat : Int)] (w1.drewN m) fun e w' => e = .returned (.tuple #[]) ∧ w'.cell? ⟨s.hb (pageOf a), 1, none⟩ = some (.bool false) ∧ MemW w' (s.poke a v s.tv) ∧ Keep (· = s.pb (pageOf a)) w w')) := by
    intro w1 q e
    subst e
    refine ⟨h.held0 hk, fun m => ?_⟩
    have hs := hset (q + m)
    rw [← World.drewN_drewN] at hs
    refine hs.mono ?_
    rintro e w' ⟨he, hp', ho⟩
    refine ⟨he, ?_, poke_quiet h hk hon h0 h1 hp' ho, Keep.of_only ho⟩
    rw [← hon, cell_of_row _ _ _ _ _ _ ((ho.block _ (h.pb_ne_hb hk hk).symm).trans (h.held _ hk))]
    rfl
  clear h hk ha hon hset h0 h1 hcc
  generalize a % 256 = j at H3 HC
  generalize pageOf a = k at H HC
  generalize (v.toNat : Int) = x at HC
  go_enter Try.func28, Try.ntmps28
  go_wp2_with (go_at_call 53; refine (Hid.out H).mono ?_; rintro e w1 ⟨rfl, q, hww⟩; obtain ⟨hc, hset⟩ := Hid.out HC w1 q hww; clear hww HC)
  refine wp_region_tail 7 (by kernel_rfl) (by kernel_rfl) ?_
  simp only [List.take_succ_cons, List.take_zero, List.drop_succ_cons, List.drop_zero]
  repeat (go_big_quiet_step ((go_at_call 60; exact Calls.quiet_of_same (Hid.out (H3 _)))))
  refine wpQuiet_nil ?_
  rintro _ ⟨nq, rfl⟩
  go_wp2_with (go_at_call 59; refine (Hid.out (hset _)).mono ?_; rintro e w2 ⟨rfl, hc2, hm2, hk2⟩; have HM2 := hidden hm2; have HK2 := hidden hk2; clear hm2 hk2)
  go_ret
  exact ⟨rfl, Hid.out HM2, Hid.out HK2⟩
set_option maxRecDepth 20000 in
theorem poke_on (w : World) (s : MS) (a : Nat) (v : UInt8) (h : MemW w s) (ha : a < 4294967296) (hk : pageOf a ∈ s.ks) (hon : s.on (pageOf a) = true) (hcc : s.c < 1099511627776) : Calls Try.prog 28 #[.pointer (some ⟨s.mb, 0, none⟩), .int .u32 (a : Int), .int .u8 (v.toNat : Int)] w fun e w' => e = .returned (.bool true) ∧ ∃ tv, MemW w' (s.poke a v tv) ∧ Keep (foot s) w w' ∧ (tv.ownBlock = s.tv.ownBlock ∨ ∃ b, w.heap.size ≤ b ∧ tv.ownBlock = some b) := by
  have H := hidden (find_in w s a h ha hk)
  have H3 := fun w => hidden (within_any a ha w)
  obtain ⟨n, h0, h1, hset⟩ := poke_set w s a v h hk (by omega)
  obtain ⟨ao, tn, tcap, htv⟩ := tv_slice h
  have HC : Hid (∀ w1 q, w1 = w.drewN q → w1.cell? ⟨s.hb (pageOf a), 0, none⟩ = some (.pointer (some ⟨s.pb (pageOf a), 0, none⟩)) ∧ ∀ m, Hid (Calls Try.prog 59 #[.pointer (some ⟨s.pb (pageOf a), 0, none⟩), .int .i64 ((a % 256 : Nat) : Int), .int .u8 (v.toNat : Int)] (w1.drewN m) fun e w' => e = .returned (.tuple #[]) ∧ w'.cell? ⟨s.hb (pageOf a), 1, none⟩ = some (.bool true) ∧ w'.cell? ⟨s.mb, 3, none⟩ = some (.slice ao tn tcap) ∧ w'.ownsRow 0 23 1 (.slice ao tn tcap) s.ts.length (words s.ts) ∧ s.mb < w'.heap.size ∧ (∀ w3, w'.grownBy w3 (Value.slice ao tn tcap).ownBlock → w3.cell? ⟨s.mb, 3, none⟩ = some (.slice ao tn tcap) ∧ w3.frozen? ⟨s.mb, 3, none⟩ = false) ∧ (∀ w3 tv, w'.grownBy w3 (Value.slice ao tn tcap).ownBlock → w3.ownsRow 0 23 1 tv (s.ts.length + 1) (words s.ts ++ [.int .u32 (a : Int)]) → (tv.ownBlock = (Value.slice ao tn tcap).ownBlock ∨ ∃ b, w'.heap.size ≤ b ∧ tv.ownBlock = some b) → MemW (w3.setCell ⟨s.mb, 3, none⟩ tv) (s.poke a v tv) ∧ Keep (foot s) w (w3.setCell ⟨s.mb, 3, none⟩ tv) ∧ (tv.ownBlock = s.tv.ownBlock ∨ ∃ b, w.heap.size ≤ b ∧ tv.ownBlock = some b)))) := by
    intro w1 q e
    subst e
    refine ⟨h.held0 hk, fun m => ?_⟩
    have hs := hset (q + m)
    rw [← World.drewN_drewN] at hs
    refine hs.mono ?_
    rintro e w' ⟨he, hp', ho⟩
    have hself : w'.heap[s.mb]? = some (.cells (mcells s) 93 (0, 0)) := (ho.block _ (h.pb_ne_mb hk).symm).trans h.self
    refine ⟨he, ?_, ?_, ?_, (Array.getElem?_eq_some_iff.1 hself).1, ?_, ?_⟩
    · rw [← hon, cell_of_row _ _ _ _ _ _ ((ho.block _ (h.pb_ne_hb hk hk).symm).trans (h.held _ hk))]
      rfl
    · rw [cell_of_row _ _ _ _ _ _ hself, ← htv]
      rfl
    · rw [← htv]
      exact ownsRow_same h.touched fun g hg => ho.block g (h.tv_ne_pb hg hk)
    · intro w3 hg
      rw [← htv] at hg
      have h3 : w3.heap[s.mb]? = some (.cells (mcells s) 93 (0, 0)) := (hg.block _ (Array.getElem?_eq_some_iff.1 hself).1 (fun e => h.tv_ne_mb e.symm rfl)).trans hself
      exact ⟨by rw [cell_of_row _ _ _ _ _ _ h3, ← htv]; rfl, frozen_of_row _ _ _ _ _ h3⟩
    · intro w3 tv hg hrow hloc
      rw [← htv] at hg hloc
      refine ⟨poke_loud h hk hon h0 h1 hp' ho hg hrow hloc, ?_, ?_⟩
      · refine (Keep.trans (F := foot s) ((Keep.of_only ho).mono fun b _ e => ?_) (Keep.grown hg) fun b hb e => ?_).trans (keep_setCell _ _ _ _) fun b _ e => ?_
        · exact .inr (.inr (.inr (.inl ⟨_, hk, e⟩)))
        · exact .inr (.inr (.inr (.inr e)))
        · exact .inl e
      · rcases hloc with hl | ⟨b, hb, hl⟩
        · exact .inl hl
        · exact .inr ⟨b, by rw [ho.size] at hb; exact hb, hl⟩
  have hfew : s.ts.length < 1099511627776 := Nat.lt_of_le_of_lt h.few hcc
  obtain ⟨i0, hi, hz0, hz1, hz2⟩ := info_parts info27
  clear h hk ha hon hset h0 h1 hcc htv
  generalize a % 256 = j at H3 HC
  generalize pageOf a = k at H HC
  generalize hx : (v.toNat : Int) = x at HC
  clear hx
  go_enter Try.func28, Try.ntmps28
  go_wp2_with (go_at_call 53; refine (Hid.out H).mono ?_; rintro e w1 ⟨rfl, q, hww⟩; obtain ⟨hc, hset⟩ := Hid.out HC w1 q hww; clear hww HC)
  refine wp_region_tail 7 (by kernel_rfl) (by kernel_rfl) ?_
  simp only [List.take_succ_cons, List.take_zero, List.drop_succ_cons, List.drop_zero]
  repeat (go_big_quiet_step ((go_at_call 60; exact Calls.quiet_of_same (Hid.out (H3 _)))))
  refine wpQuiet_nil ?_
  rintro _ ⟨nq, rfl⟩
  go_wp2_with (first | (go_at_call 59; refine (Hid.out (hset _)).mono ?_; rintro e w2 ⟨rfl, hc2, hc3, hrow, hlt, hcl, hend⟩; have HR := hidden hrow; have HCL := hidden hcl; have HEND := hidden hend; clear hrow hcl hend) | (at_builtin; refine wpList_append_own_at _ rfl _ _ 47 rfl 0 23 i0 (.int .u32 0) 1 4 Try.underlying47 hi hz0 hz1 hz2 rfl (by decide) _ _ _ rfl ((Hid.out HR).alloc _) ⟨w2.heap.size, 0, none⟩ 1 1 [.int .u32 (a : Int)] rfl rfl (cell_one_new _ _ _) (words_one [a]) (by unfold maxLen; omega) (by omega) (by simp) ?_; intro tv w3 hown hgrow hnil hloc; obtain ⟨ta, tm, tc, rfl⟩ := row_slice hown; have HG := hidden ((World.grownBy_alloc w2 _ _).trans hgrow); obtain ⟨hca, hcb⟩ := Hid.out HCL w3 (Hid.out HG); have HO := hidden hown; have HL := hidden hloc; clear hown hgrow hnil hloc))
  go_ret
  refine ⟨rfl, _, Hid.out HEND _ _ (Hid.out HG) (Hid.out HO) ?_⟩
  rcases Hid.out HL with hl | hl
  · exact .inl hl
  · exact .inr ⟨_, by simp, hl⟩
end Go.Proofs.Ytodoenimlhldjaa
namespace Go.Proofs.Ytodoenimlhldjaa
open Go.ChangeShapes Go.WideShapes Go.ChangeAt Go.RowKit
set_option linter.unusedVariables false
/-- From one world and memory to another: nothing else has turned. -/
structure Step (w : World) (s : MS) (w' : World) (s' : MS) : Prop where
  mem : MemW w' s'
  keep : Keep (foot s) w w'
  grow : ∀ b, foot s' b → foot s b ∨ w.heap.size ≤ b
/-- No block in common. -/
def Apart (s t : MS) : Prop := ∀ b, foot s b → ¬ foot t b
theorem Apart.symm {s t : MS} (h : Apart s t) : Apart t s := fun b h1 h2 => h b h2 h1
theorem Step.refl {w : World} {s : MS} (h : MemW w s) : Step w s w s := ⟨h, Keep.refl _ _, fun _ hb => .inl hb⟩
theorem Step.drew {w w' : World} {s : MS} (h : MemW w s) (e : ∃ n, w' = w.drewN n) : Step w s w' s := by
  obtain ⟨n, rfl⟩ := e
  exact ⟨h.drewN n, (Keep.refl _ _).drewN n, fun _ hb => .inl hb⟩
theorem Step.later {w w' : World} {s : MS} (h : MemW w s) (hb : Below w.heap.size w w') : Step w s w' s := ⟨h.later hb, Keep.of_below hb, fun _ hb => .inl hb⟩
theorem Step.trans {u v w : World} {r s t : MS} (h : Step u r v s) (k : Step v s w t) : Step u r w t := by
  refine ⟨k.mem, h.keep.trans k.keep fun b hb hs => ?_, fun b hb => ?_⟩
  · rcases h.grow b hs with h1 | h1
    · exact h1
    · omega
  · rcases k.grow b hb with h1 | h1
    · exact h.grow b h1
    · exact .inr (Nat.le_trans h.keep.size h1)
theorem Step.apart {w w' : World} {s s' t : MS} (h : Step w s w' s') (ht : MemW w t) (ha : Apart s t) : MemW w' t ∧ Apart s' t := by
  refine ⟨ht.keep h.keep fun b hb hs => ha b hs hb, fun b hb hbt => ?_⟩
  rcases h.grow b hb with h1 | h1
  · exact ha b h1 hbt
  · have := ht.lt hbt
    omega
theorem Step.below {w w' : World} {s s' : MS} {B : Nat} (h : Step w s w' s') (hB : B ≤ w.heap.size) (hf : ∀ b, foot s b → B ≤ b) : Below B w w' ∧ ∀ b, foot s' b → B ≤ b := by
  refine ⟨h.keep.below hB hf, fun b hb => ?_⟩
  rcases h.grow b hb with h1 | h1
  · exact hf b h1
  · omega
/-- A row of words that is none of the memory's. -/
theorem Step.row {w w' : World} {s s' : MS} {v : Value} {n base : Nat} {xs : List Value} (h : Step w s w' s') (hr : w.ownsRow base 23 1 v n xs) (hf : ∀ g, v.ownBlock = some g → ¬ foot s g) : w'.ownsRow base 23 1 v n xs ∧ ∀ g, v.ownBlock = some g → ¬ foot s' g := by
  have hlt : ∀ g, v.ownBlock = some g → g < w.heap.size := by
    intro g hg
    rcases hr.2 with ⟨e, _⟩ | ⟨g', cap, cur, e, _, hc, _⟩
    · rw [e] at hg; simp [Value.ownBlock] at hg
    · rw [e] at hg
      simp [Value.ownBlock] at hg
      subst hg
      exact (Array.getElem?_eq_some_iff.1 hc).1
  refine ⟨ownsRow_same hr fun g hg => h.keep.block g (hlt g hg) (hf g hg), fun g hg hb => ?_⟩
  rcases h.grow g hb with h1 | h1
  · exact hf g hg h1
  · have := hlt g hg
    omega
def MS.mapped (s : MS) (a : Nat) (z : Int) (b : Nat) : MS := if pageOf a ∈ s.ks then s.also (pageOf a) z else if s.ks.length < s.most then s.lay (pageOf a) (b + 1) b zeros (z % 8) false else s
def MS.mapErr (s : MS) (a : Nat) : Int := if pageOf a ∈ s.ks ∨ s.ks.length < s.most then 0 else 2
theorem map_any (w : World) (s : MS) (a : Nat) (z : Int) (h : MemW w s) (ha : a < 4294967296) : Calls Try.prog 27 #[.pointer (some ⟨s.mb, 0, none⟩), .int .u32 (a : Int), .int .i64 z] w fun e w' => e = .returned (.int .i64 (s.mapErr a)) ∧ Step w s w' (s.mapped a z w.heap.size) := by
  by_cases hk : pageOf a ∈ s.ks
  · refine (map_in w s a z h ha hk).mono ?_
    rintro e w' ⟨he, hm, hkp⟩
    unfold MS.mapErr MS.mapped
    rw [if_pos (.inl hk), if_pos hk]
    exact ⟨he, hm, hkp.mono fun b _ e => .inr (.inr (.inr (.inl ⟨_, hk, e⟩))), fun b hb => .inl hb⟩
  · by_cases hr : s.ks.length < s.most
    · refine (map_new w s a z h ha hk hr).mono ?_
      rintro e w' ⟨he, hm, hkp⟩
      unfold MS.mapErr MS.mapped
      rw [if_pos (.inr hr), if_neg hk, if_pos hr]
      refine ⟨he, hm, hkp.mono fun b _ e => e.elim .inl fun e => .inr (.inl e), fun b hb => ?_⟩
      rcases hb with hb | hb | ⟨k, hk', hb⟩ | ⟨k, hk', hb⟩ | hb
      · exact .inl (.inl hb)
      · exact .inl (.inr (.inl hb))
      · by_cases e : k = pageOf a
        · subst e
          simp only [MS.lay, upd_same] at hb
          exact .inr (by omega)
        · simp only [MS.lay, upd_other _ _ e] at hb
          exact .inl (.inr (.inr (.inl ⟨k, by simpa [MS.lay, e] using hk', hb⟩)))
      · by_cases e : k = pageOf a
        · subst e
          simp only [MS.lay, upd_same] at hb
          exact .inr (by omega)
        · simp only [MS.lay, upd_other _ _ e] at hb
          exact .inl (.inr (.inr (.inr (.inl ⟨k, by simpa [MS.lay, e] using hk', hb⟩))))
      · exact .inl (.inr (.inr (.inr (.inr hb))))
    · refine (map_full w s a z h ha hk hr).mono ?_
      rintro e w' ⟨he, hn⟩
      unfold MS.mapErr MS.mapped
      rw [if_neg (by simp [hk, hr]), if_neg hk, if_neg hr]
      exact ⟨he, Step.drew h hn⟩
def MS.watchAt (s : MS) (a : Nat) (b : Bool) : MS := if pageOf a ∈ s.ks then s.watch (pageOf a) b else s
theorem watch_any (w : World) (s : MS) (a : Nat) (b : Bool) (h : MemW w s) (ha : a < 4294967296) : Calls Try.prog 29 #[.pointer (some ⟨s.mb, 0, none⟩), .int .u32 (a : Int), .bool b] w fun e w' => e = .returned (.tuple #[]) ∧ Step w s w' (s.watchAt a b) := by
  unfold MS.watchAt
  by_cases hk : pageOf a ∈ s.ks
  · rw [if_pos hk]
    refine (watch_in w s a b h ha hk).mono ?_
    rintro e w' ⟨he, hm, hkp⟩
    exact ⟨he, hm, hkp.mono fun b _ e => .inr (.inr (.inl ⟨_, hk, e⟩)), fun b hb => .inl hb⟩
  · rw [if_neg hk]
    refine (watch_out w s a b h ha hk).mono ?_
    rintro e w' ⟨he, hn⟩
    exact ⟨he, Step.drew h hn⟩
theorem told_any (w : World) (s : MS) (h : MemW w s) : Calls Try.prog 19 #[.pointer (some ⟨s.mb, 0, none⟩)] w fun e w' => e = .returned s.tv ∧ Step w s w' s.told ∧ w'.ownsRow 0 23 1 s.tv s.ts.length (words s.ts) ∧ ∀ g, s.tv.ownBlock = some g → ¬ foot s.told g := by
  refine (touched_any w s h).mono ?_
  rintro e w' ⟨he, hm, hkp⟩
  refine ⟨he, ⟨hm, hkp.mono fun b _ e => .inl e, fun b hb => .inl ?_⟩, ownsRow_same h.touched fun g hg => hkp.block g (h.lt (.inr (.inr (.inr (.inr hg))))) (h.tv_ne_mb hg), fun g hg hb => ?_⟩
  · rcases hb with hb | hb | hb | hb | hb
    · exact .inl hb
    · exact .inr (.inl hb)
    · exact .inr (.inr (.inl hb))
    · exact .inr (.inr (.inr (.inl hb)))
    · simp [MS.told, Value.ownBlock] at hb
  · rcases hb with hb | hb | ⟨k, hk, hb⟩ | ⟨k, hk, hb⟩ | hb
    · exact h.tv_ne_mb hg hb
    · exact h.tv_ne_bm hg hb
    · exact h.tv_ne_hb hg hk hb
    · exact h.tv_ne_pb hg hk hb
    · simp [MS.told, Value.ownBlock] at hb
def MS.pokeAt (s : MS) (a : Nat) (v : UInt8) (tv : Value) : MS := if pageOf a ∈ s.ks then s.poke a v tv else s
theorem poke_any (w : World) (s : MS) (a : Nat) (v : UInt8) (h : MemW w s) (ha : a < 4294967296) (hc : s.c < 1099511627776) : Calls Try.prog 28 #[.pointer (some ⟨s.mb, 0, none⟩), .int .u32 (a : Int), .int .u8 (v.toNat : Int)] w fun e w' => e = .returned (.bool (decide (pageOf a ∈ s.ks))) ∧ ∃ tv, Step w s w' (s.pokeAt a v tv) := by
  unfold MS.pokeAt
  by_cases hk : pageOf a ∈ s.ks
  · rw [decide_eq_true hk]
    simp only [if_pos hk]
    cases hon : s.on (pageOf a) with
    | false =>
      refine (poke_off w s a v h ha hk hon (by omega)).mono ?_
      rintro e w' ⟨he, hm, hkp⟩
      exact ⟨he, _, hm, hkp.mono fun b _ e => .inr (.inr (.inr (.inl ⟨_, hk, e⟩))), fun b hb => .inl hb⟩
    | true =>
      refine (poke_on w s a v h ha hk hon hc).mono ?_
      rintro e w' ⟨he, tv, hm, hkp, hl⟩
      refine ⟨he, tv, hm, hkp, fun b hb => ?_⟩
      rcases hb with hb | hb | hb | hb | hb
      · exact .inl (.inl hb)
      · exact .inl (.inr (.inl hb))
      · exact .inl (.inr (.inr (.inl hb)))
      · exact .inl (.inr (.inr (.inr (.inl hb))))
      · have hb : tv.ownBlock = some b := hb
        rcases hl with hl | ⟨g, hg, hl⟩
        · exact .inl (.inr (.inr (.inr (.inr (by rw [← hl]; exact hb)))))
        · rw [hl] at hb
          obtain rfl : g = b := by simpa using hb
          exact .inr hg
  · rw [decide_eq_false hk]
    simp only [if_neg hk]
    refine (poke_out w s a v h ha hk).mono ?_
    rintro e w' ⟨he, hn⟩
    exact ⟨he, .slice none 0 0, Step.drew h hn⟩
theorem pokeAt_mb (s : MS) (a : Nat) (v : UInt8) (tv : Value) : (s.pokeAt a v tv).mb = s.mb := by unfold MS.pokeAt; split <;> rfl
theorem pokeAt_ks (s : MS) (a : Nat) (v : UInt8) (tv : Value) : (s.pokeAt a v tv).ks = s.ks := by unfold MS.pokeAt; split <;> rfl
theorem pokeAt_on (s : MS) (a : Nat) (v : UInt8) (tv : Value) : (s.pokeAt a v tv).on = s.on := by unfold MS.pokeAt; split <;> rfl
theorem pokeAt_pm (s : MS) (a : Nat) (v : UInt8) (tv : Value) : (s.pokeAt a v tv).pm = s.pm := by unfold MS.pokeAt; split <;> rfl
theorem pokeAt_most (s : MS) (a : Nat) (v : UInt8) (tv : Value) : (s.pokeAt a v tv).most = s.most := by unfold MS.pokeAt; split <;> rfl
theorem pokeAt_c (s : MS) (a : Nat) (v : UInt8) (tv : Value) : (s.pokeAt a v tv).c ≤ s.c + 1 := by unfold MS.pokeAt; split <;> simp [MS.poke]
theorem pokeAt_ts (s : MS) (a : Nat) (v : UInt8) (tv : Value) : (s.pokeAt a v tv).ts = if s.watched a then s.ts ++ [a] else s.ts := by
  unfold MS.pokeAt MS.watched
  by_cases hk : pageOf a ∈ s.ks
  · rw [if_pos hk, decide_eq_true hk]
    simp [MS.poke]
  · rw [if_neg hk, decide_eq_false hk]
    simp
theorem mapped_mb (s : MS) (a : Nat) (z : Int) (b : Nat) : (s.mapped a z b).mb = s.mb := by unfold MS.mapped; split; rfl; split <;> rfl
theorem mapped_most (s : MS) (a : Nat) (z : Int) (b : Nat) : (s.mapped a z b).most = s.most := by unfold MS.mapped; split; rfl; split <;> rfl
theorem mapped_c (s : MS) (a : Nat) (z : Int) (b : Nat) : (s.mapped a z b).c = s.c := by unfold MS.mapped; split; rfl; split <;> rfl
theorem mapped_ts (s : MS) (a : Nat) (z : Int) (b : Nat) : (s.mapped a z b).ts = s.ts := by unfold MS.mapped; split; rfl; split <;> rfl
theorem mapped_tv (s : MS) (a : Nat) (z : Int) (b : Nat) : (s.mapped a z b).tv = s.tv := by unfold MS.mapped; split; rfl; split <;> rfl
theorem watchAt_mb (s : MS) (a : Nat) (b : Bool) : (s.watchAt a b).mb = s.mb := by unfold MS.watchAt; split <;> rfl
end Go.Proofs.Ytodoenimlhldjaa
