/- load's bare and front, of a file of one segment. -/
import Derived.Test.YtpknppicamefgaaPESegRow
import Derived.Test.YtpknppicamefgaaPPutB
import Derived.Maps.AppendAt
namespace Go.Proofs.Ytpknppicamefgaa
open Go.ChangeShapes Go.WideShapes Go.ChangeAt Go.RowKit
set_option linter.unusedVariables false
def bareS (s : Sg) : Sg := { s with data := [] }
set_option maxRecDepth 20000 in
set_option maxHeartbeats 1000000 in
theorem clone1_any (w : World) (b off cap : Nat) (s : Sg) (h : SegAt w b off s) : Calls Try.prog 82 #[.slice (some ⟨b, off, none⟩) 1 cap] w fun e w' => ∃ v, e = .returned v ∧ OutS w' w.heap.size v [s] ∧ Below w.heap.size w w' := by
  obtain ⟨i0, hi, hz0, hz1, hz2⟩ := info_parts info43
  have hlt := h.c0
  have hb0 := World.block_lt_of_cell? _ _ h.c0
  simp only at hb0
  obtain ⟨c0, c1, c2, c3, fit⟩ := h
  have HC : Hid (∀ o : Obj, ∀ j u, (segCells [s])[j]? = some u → (w.alloc o).cell? ((⟨b, off, none⟩ : Addr).add j) = some u) := by
    intro o j u hu
    have hc := (below_new w o).cell (p := (⟨b, off, none⟩ : Addr).add j) (by rw [Addr.add_lit]; exact hb0)
    rw [hc, Addr.add_lit]
    match j, hu with
    | 0, hu => cases hu; exact c0
    | 1, hu => cases hu; exact c1
    | 2, hu => cases hu; exact c2
    | 3, hu => cases hu; exact c3
    | j + 4, hu => simp [segCells] at hu
  have HB : Hid (∀ o, Below w.heap.size w (w.alloc o)) := fun o => below_new w o
  clear hlt c0 c1 c2 c3 fit
  have heq : ∀ u, (binOp .eql 23 (.slice (some ⟨b, off, none⟩) 1 cap) (.slice none 0 0)).run Try.prog u = .ok (.bool false) u := fun u => by kernel_rfl
  have HOW : Hid ((w.alloc (.cells #[] 44)).ownsRow w.heap.size 44 4 (.slice (some ⟨w.heap.size, 0, none⟩) 0 0) 0 []) := ⟨rfl, .inr ⟨w.heap.size, 0, #[], rfl, Nat.le_refl _, heap_alloc_new w _, Nat.le_refl _, by simp [maxLen], rfl, rfl⟩⟩
  have n1 : (0 : Nat) < 4 := by omega
  have n2 : 0 + 1 ≤ maxLen := by simp [maxLen]
  have n3 : (0 + 1) * 40 ≤ 140737488355328 := by omega
  have n4 : w.heap.size ≤ (w.alloc (.cells #[] 44)).heap.size := by simp
  have HB2 : Hid (∀ w', (w.alloc (.cells #[] 44)).grownBy w' (some w.heap.size) → Below w.heap.size w w') := fun w' hg => (below_new w (.cells #[] 44)).grown hg n4 fun k e => by cases e; exact Nat.le_refl _
  go_enter Try.func82, Try.ntmps82
  go_wp2_with (refine wpList_append_own_at _ rfl _ _ 23 rfl w.heap.size 44 i0 _ 4 40 Try.underlying23 hi hz0 hz1 hz2 rfl n1 (.slice (some ⟨w.heap.size, 0, none⟩) 0 0) 0 [] rfl (Hid.out HOW) ⟨b, off, none⟩ 1 cap (segCells [s]) rfl rfl (Hid.out HC _) (segCells_one _) n2 n3 n4 ?_; intro v' w1 hown hgrow _ _; have HO := hidden hown; have HG := hidden (Hid.out HB2 w1 hgrow); clear hown hgrow)
  go_ret
  exact ⟨v', rfl, Hid.out HO, Hid.out HG⟩
theorem outS_one {w : World} {base : Nat} {v : Value} {s : Sg} (h : OutS w base v [s]) : ∃ g cap tl, v = .slice (some ⟨g, 0, none⟩) 1 cap ∧ base ≤ g ∧ 1 ≤ cap ∧ cap ≤ 9223372036854775807 ∧ w.heap[g]? = some (.cells (segCells [s] ++ tl).toArray 44 (0, 0)) := by
  rcases h.2 with ⟨_, h0⟩ | ⟨g, cap, cur, e, hb, hg, hnc, hcm, hcs, htk⟩
  · simp at h0
  · refine ⟨g, cap, cur.toList.drop 4, e, hb, hnc, hcm, ?_⟩
    rw [hg]
    congr 2
    apply Array.ext'
    simp only
    have e2 : cur.toList = cur.toList.take 4 ++ cur.toList.drop 4 := (List.take_append_drop 4 _).symm
    have e3 : cur.toList.take 4 = segCells [s] := htk
    rw [e3] at e2
    exact e2
set_option maxRecDepth 20000 in
set_option maxHeartbeats 2000000 in
theorem bare1_any (w : World) (b off cap ent : Nat) (s : Sg) (h : SegAt w b off s) : Calls Try.prog 62 #[.agg #[.int .u32 (ent : Int), .slice (some ⟨b, off, none⟩) 1 cap]] w fun e w' => ∃ g cap', e = .returned (.agg #[.int .u32 (ent : Int), .slice (some ⟨g, 0, none⟩) 1 cap']) ∧ Segs w' (some ⟨g, 0, none⟩) [bareS s] ∧ 1 ≤ cap' ∧ cap' ≤ 9223372036854775807 ∧ Below w.heap.size w w' := by
  obtain ⟨n, hn⟩ : ∃ n, w.heap.size = n := ⟨_, rfl⟩
  obtain ⟨wa, hwa⟩ : ∃ wa, (w.alloc (.cells #[.int .u32 (ent : Int), .slice (some ⟨b, off, none⟩) 1 cap] 25)).alloc (.cells #[.int .u32 0, .slice none 0 0] 25) = wa := ⟨_, rfl⟩
  have hba : Below n w wa := by rw [← hwa, ← hn]; exact ((Below.refl _ w).alloc (Nat.le_refl _) _).alloc (by simp) _
  have k0 : Blk wa n #[.int .u32 (ent : Int), .slice (some ⟨b, off, none⟩) 1 cap] 25 := by rw [← hwa, ← hn]; exact (heap_alloc_old _ _ (by simp)).trans (Blk.new w _ _)
  have k1 : Blk wa (n + 1) #[.int .u32 0, .slice none 0 0] 25 := by
    have := Blk.new (w.alloc (.cells #[.int .u32 (ent : Int), .slice (some ⟨b, off, none⟩) 1 cap] 25)) #[.int .u32 0, .slice none 0 0] 25
    rw [World.size_alloc, hn] at this
    rw [← hwa]; exact this
  have hbl := World.block_lt_of_cell? _ _ h.c0
  simp only at hbl
  have q1 : wa.cell? ⟨n, 1, none⟩ = some (.slice (some ⟨b, off, none⟩) 1 cap) := k0.cell rfl
  have hfit := h.fit
  have H82 : Hid (Calls Try.prog 82 #[.slice (some ⟨b, off, none⟩) 1 cap] wa fun e w1 => ∃ g cap' tl, e = .returned (.slice (some ⟨g, 0, none⟩) 1 cap') ∧ n + 2 ≤ g ∧ 1 ≤ cap' ∧ cap' ≤ 9223372036854775807 ∧ w1.heap[g]? = some (.cells (segCells [s] ++ tl).toArray 44 (0, 0)) ∧ Below n w w1 ∧ Blk w1 n #[.int .u32 (ent : Int), .slice (some ⟨b, off, none⟩) 1 cap] 25 ∧ Blk w1 (n + 1) #[.int .u32 0, .slice none 0 0] 25) := by
    refine (clone1_any wa b off cap s (h.later hbl (by rw [hn]; exact hba))).mono ?_
    rintro e w1 ⟨v, he, ho, hb1⟩
    obtain ⟨g, cap', tl, hv, h1, h2, h3, h4⟩ := outS_one ho
    have hs := k1.lt
    exact ⟨g, cap', tl, by rw [he, hv], by omega, h2, h3, h4, hba.trans (hb1.mono (by omega)), k0.later hb1, k1.later hb1⟩
  clear h hba k0 k1 hbl
  go_enter Try.func62, Try.ntmps62
  go_wp2_with (go_at_call 82; with_reducible refine (Hid.out H82).mono ?_; rintro e w1 ⟨g, cap', tl, rfl, hg, hc1, hc2, hrow, hb1, hf1, hz1⟩; have HR := hidden hrow; have HB1 := hidden hb1; have HF1 := hidden hf1; have HZ1 := hidden hz1; clear hrow hb1 hf1 hz1)
  go_loopw [10] (fun x10 wr => ∃ (k : Nat) (t : Sg), k ≤ 1 ∧ x10 = .int .i64 (k : Int) ∧ (k = 1 → t = bareS s) ∧ t.at_ = s.at_ ∧ t.size = s.size ∧ t.perm = s.perm ∧ wr.heap[g]? = some (.cells (segCells [t] ++ tl).toArray 44 (0, 0)) ∧ Below n w wr ∧ Blk wr n #[.int .u32 (ent : Int), .slice (some ⟨b, off, none⟩) 1 cap] 25 ∧ Blk wr (n + 1) #[.int .u32 0, .slice none 0 0] 25) (fun x10 _ => 1 - (intOf x10).toNat)
  case atStart => exact ⟨0, s, by omega, rfl, by omega, rfl, rfl, rfl, Hid.out HR, Hid.out HB1, Hid.out HF1, Hid.out HZ1⟩
  case round =>
    obtain ⟨k, t, hk, rfl, ht, ta, ts, tp, hr, hb, hf, hz⟩ := hrel
    by_cases hk0 : k = 0
    · subst hk0
      have c1 : wr.cell? ⟨g, 1, none⟩ = some (.string ⟨t.data.toArray⟩) := cell_of_row _ _ _ _ _ _ hr
      have f1 : wr.frozen? ⟨g, 1, none⟩ = false := frozen_of_row _ _ _ _ _ hr
      have HR2 : Hid ((wr.setCell ⟨g, 1, none⟩ (.string ⟨#[]⟩)).heap[g]? = some (.cells (segCells [bareS s] ++ tl).toArray 44 (0, 0))) := by
        show (wr.setCell ⟨g, 1, none⟩ (.string ⟨#[]⟩)).heap[g]? = _
        rw [heap_setCell_same wr g 1 _ 44 _ hr]
        have e : (segCells [t] ++ tl).toArray.setIfInBounds 1 (.string ⟨#[]⟩) = (segCells [bareS s] ++ tl).toArray := by
          simp [segCells, bareS, ta, ts, tp]
        rw [e]
      have HB2 : Hid (Below n w (wr.setCell ⟨g, 1, none⟩ (.string ⟨#[]⟩))) := hb.setCell (p := ⟨g, 1, none⟩) (by show n ≤ g; omega) _
      have HF2 : Hid (Blk (wr.setCell ⟨g, 1, none⟩ (.string ⟨#[]⟩)) n #[.int .u32 (ent : Int), .slice (some ⟨b, off, none⟩) 1 cap] 25) := (Below.heap_setCell _ _ _ _ (by show n ≠ g; omega)).trans hf
      have HZ2 : Hid (Blk (wr.setCell ⟨g, 1, none⟩ (.string ⟨#[]⟩)) (n + 1) #[.int .u32 0, .slice none 0 0] 25) := (Below.heap_setCell _ _ _ _ (by show n + 1 ≠ g; omega)).trans hz
      clear hr hb hf hz ht
      go_wp2
      go_roundw
      case rel => first | exact ⟨1, bareS s, by omega, by simp, (fun _ => rfl), rfl, rfl, rfl, Hid.out HR2, Hid.out HB2, Hid.out HF2, Hid.out HZ2⟩ | ((repeat apply Exists.intro); exact ⟨⟨1, bareS s, by omega, by simp, (fun _ => rfl), rfl, rfl, rfl, Hid.out HR2, Hid.out HB2, Hid.out HF2, Hid.out HZ2⟩, rfl⟩)
      case measure => simp [intOf]
    · obtain rfl : k = 1 := by omega
      obtain rfl := ht rfl
      have r0 : wr.cell? ⟨n, 0, none⟩ = some (.int .u32 (ent : Int)) := hf.cell rfl
      obtain ⟨z0, z1, hzl, hzf⟩ := zero26 hz
      have HR := hidden hr
      have HB := hidden hb
      have HZ := hidden hz
      have hsg : Blk wr g (segCells [bareS s] ++ tl).toArray 44 := hr
      clear hr hb hf hz
      go_wp2
      have hz2 := (Hid.out HZ).set2 (a' := .int .u32 (ent : Int)) (b' := .slice (some ⟨g, 0, none⟩) 1 cap')
      have hb2 := below_set2 (a' := .int .u32 (ent : Int)) (b' := .slice (some ⟨g, 0, none⟩) 1 cap') (g := n + 1) (Hid.out HB) (by omega)
      have hr2 : Blk ((wr.setCell ⟨n + 1, 0, none⟩ (.int .u32 (ent : Int))).setCell ⟨n + 1, 1, none⟩ (.slice (some ⟨g, 0, none⟩) 1 cap')) g (segCells [bareS s] ++ tl).toArray 44 := (Below.heap_setCell _ _ _ _ (by show g ≠ n + 1; omega)).trans ((Below.heap_setCell _ _ _ _ (by show g ≠ n + 1; omega)).trans hsg)
      generalize World.setCell _ _ _ = wf at hz2 hb2 hr2 ⊢
      have g0 : wf.cell? ⟨n + 1, 0, none⟩ = some (.int .u32 (ent : Int)) := hz2.cell rfl
      have g1 : wf.cell? ⟨n + 1, 1, none⟩ = some (.slice (some ⟨g, 0, none⟩) 1 cap') := hz2.cell rfl
      refine bodyPost_ret (v := .agg #[.int .u32 (ent : Int), .slice (some ⟨g, 0, none⟩) 1 cap']) (by simp [results, Try.results62, go_sem, g0, g1]) rfl ⟨g, cap', rfl, .inr ⟨g, 0, rfl, hr2.lt, fun j hj => ?_⟩, hc1, hc2, by first | exact hb2 | (rw [hn]; exact hb2)⟩
      obtain rfl : j = 0 := by simpa using hj
      exact ⟨hr2.cell rfl, hr2.cell rfl, hr2.cell rfl, hr2.cell rfl, ⟨hfit.la, hfit.ls, by simp [bareS]⟩⟩
end Go.Proofs.Ytpknppicamefgaa
