/- Load: a memory with a file, and the state at its beginning. -/
import Derived.Test.YtpknppicamefgaaPLoadPlain
namespace Go.Proofs.Ytpknppicamefgaa
open Go.ChangeShapes Go.WideShapes Go.ChangeAt Go.RowKit
set_option linter.unusedVariables false
theorem check_facts {ent : Nat} {l : List Sg} (h : checkE ent l = 0) : l.length ≤ 8 ∧ (∀ k, k < l.length → okB (l.getD k nosg) = true) ∧ overB l = false ∧ enterB ent l = true := by
  unfold checkE at h
  by_cases h1 : 8 < l.length
  · rw [if_pos h1] at h; omega
  · rw [if_neg h1] at h
    by_cases h2 : l.all okB = false
    · rw [if_pos h2] at h; omega
    · rw [if_neg h2] at h
      by_cases h3 : overB l = true
      · rw [if_pos h3] at h; omega
      · rw [if_neg h3] at h
        by_cases h4 : enterB ent l = false
        · rw [if_pos h4] at h; omega
        · refine ⟨by omega, fun k hk => ?_, by simpa using h3, by simpa using h4⟩
          have ha : l.all okB = true := by simpa using h2
          rw [List.all_eq_true] at ha
          have e : l.getD k nosg = l[k] := by simp [List.getD_eq_getElem?_getD, hk]
          rw [e]
          exact ha _ (List.getElem_mem hk)
theorem enter_small {ent : Nat} {l : List Sg} (h : checkE ent l = 0) : ent ≤ 2147483648 := by
  obtain ⟨_, h2, _, h4⟩ := check_facts h
  unfold enterB at h4
  rw [Bool.and_eq_true, List.any_eq_true] at h4
  obtain ⟨_, g, hg, hr⟩ := h4
  obtain ⟨k, hk, e⟩ := List.getElem_of_mem hg
  have h5 := h2 k hk
  have e2 : l.getD k nosg = l[k] := by simp [List.getD_eq_getElem?_getD, hk]
  rw [e2, e] at h5
  have := ok_size h5
  simp only [runsB, Bool.and_eq_true, decide_eq_true_eq] at hr
  omega
/-- What Load answers. -/
def LoadSays (w : World) (ent : Nat) (l : List Sg) (z : Int) (e : Ending) (w' : World) : Prop :=
  (checkE ent l ≠ 0 ∧ e = .returned (.tuple #[.pointer none, .agg (stC 0 0 0), .int .i64 (checkE ent l : Int)]) ∧ Below w.heap.size w w') ∨
  (checkE ent l = 0 ∧ allKs (cutMost z) l = none ∧ e = .returned (.tuple #[.pointer none, .agg (stC 0 0 0), .int .i64 2]) ∧ Below w.heap.size w w') ∨
  (checkE ent l = 0 ∧ ∃ s, e = .returned (.tuple #[.pointer (some ⟨s.mb, 0, none⟩), .agg (stC 2147479536 (ent : Int) ((ent : Int) + 4)), .int .i64 0]) ∧ Loaded w w' (cutMost z) l s)
theorem Own.back {u v w : World} {s : MS} (h : Own v w s) (hb : Below u.heap.size u v) : Own u w s :=
  ⟨h.mem, hb.trans (h.below.mono hb.size), fun b hf => Nat.le_trans hb.size (h.foot b hf)⟩
theorem Loaded.back {u v w : World} {mo : Nat} {l : List Sg} {s : MS} (h : Loaded v w mo l s) (hb : Below u.heap.size u v) : Loaded u w mo l s := ⟨h.own.back hb, h.most, h.ks, h.abs, h.ts⟩
theorem own_only {u w w' : World} {s : MS} {g : Nat} (h : Own u w s) (ho : Only g w w') (hg : u.heap.size ≤ g) (hf : ¬ foot s g) : Own u w' s :=
  ⟨h.mem.keep (Keep.of_only ho) fun b hb e => hf (e ▸ hb), only_below h.below ho hg, h.foot⟩
set_option maxRecDepth 20000 in
set_option maxHeartbeats 2000000 in
theorem load_no (w : World) (ao : Option Addr) (cap ent : Nat) (l : List Sg) (z : Int) (h : Segs w ao l) (hcap : l.length ≤ cap) (hmax : cap ≤ 9223372036854775807) (he : ent < 4294967296) (hc : checkE ent l ≠ 0) : Calls Try.prog 9 #[.agg #[.int .u32 (ent : Int), .slice ao l.length cap], .int .i64 z] w (LoadSays w ent l z) := by
  obtain ⟨n, hn⟩ : ∃ n, w.heap.size = n := ⟨_, rfl⟩
  obtain ⟨wa, hwa⟩ : ∃ wa, w.alloc (.cells #[.int .u32 (ent : Int), .slice ao l.length cap] 25) = wa := ⟨_, rfl⟩
  have hba : Below n w wa := by rw [← hwa, ← hn]; exact below_new w _
  have hka : Blk wa n #[.int .u32 (ent : Int), .slice ao l.length cap] 25 := by rw [← hwa, ← hn]; exact Blk.new w _ _
  have hsa : wa.heap.size = n + 1 := by rw [← hwa]; simp [hn]
  have H15 : Hid (∀ w1, Blk w1 (n + 1) (stC 0 0 0) 31 → w1.heap.size = n + 1 + 1 → Below (n + 1) wa w1 → w1.cell? ⟨n, 0, none⟩ = some (.int .u32 (ent : Int)) ∧ w1.cell? ⟨n, 1, none⟩ = some (.slice ao l.length cap) ∧ Calls Try.prog 15 #[.agg #[.int .u32 (ent : Int), .slice ao l.length cap]] w1 fun e w' => e = .returned (.int .i64 (checkE ent l : Int)) ∧ Below n w w' ∧ Blk w' (n + 1) (stC 0 0 0) 31) := by
    intro w1 hk1 hs1 hb1
    have hw1 : Below n w w1 := hba.trans (hb1.mono (by omega))
    have hk := (hb1.block n (by omega)).trans hka
    refine ⟨Blk.cell hk rfl, Blk.cell hk rfl, ?_⟩
    refine (check_any w1 ao cap ent l (h.later (by rw [hn]; exact hw1)) hcap hmax he).mono ?_
    rintro e w' ⟨h1, h2⟩
    exact ⟨h1, hw1.trans (h2.mono (by omega)), hk1.later h2⟩
  have hc2 : ¬ (checkE ent l : Int) = 0 := by omega
  have HC := hidden hc
  clear h hka hba hc
  go_enter Try.func9, Try.ntmps9
  go_wp2_with (first
    | (refine wpList_allocSt rfl rfl ?_; rw [hsa]; rintro w1 hk1 hs1 hb1; obtain ⟨c0, c1, h15⟩ := Hid.out H15 w1 hk1 hs1 hb1; have HH := hidden h15; clear h15 hk1 hb1)
    | (go_at_call 15; with_reducible refine (Hid.out HH).mono ?_; rintro e w2 ⟨rfl, hb2, hk2⟩; have HB2 := hidden hb2; have HK2 := hidden hk2; clear hb2 hk2)
    | (refine wpList_buildSt rfl rfl ?_)
    | (refine wpList_storeSt rfl _ _ rfl (n + 1) (stC 0 0 0) rfl rfl (stC 0 0 0) (Hid.out HK2) (stC_size _ _ _) (stC_size _ _ _) (stC_one _ _ _) ?_; rintro w3 hk3 ho3; have HK3 := hidden hk3; have HO3 := hidden ho3; clear hk3 ho3))
  refine bodyPost_ret (results_tct rfl _ _ (n + 1) _ rfl (load31 (Hid.out HK3))) rfl (.inl ⟨Hid.out HC, rfl, ?_⟩)
  rw [hn]
  exact only_below (Hid.out HB2) (Hid.out HO3) (by omega)
theorem LM.later {u wr w' : World} {mb mo k : Nat} {l : List Sg} {s : MS} (h : LM u wr mb mo l k s) (hb : Below wr.heap.size wr w') : LM u w' mb mo l k s :=
  ⟨h.own.step (Step.later h.own.mem hb), h.mb, h.most, h.ks, h.abs, h.ts, h.c⟩
theorem LM.start {u w' : World} {mb bm mo : Nat} {l : List Sg} (hm : MemW w' (fresh mb bm mo)) (hb : Below u.heap.size u w') (hf : ∀ b, foot (fresh mb bm mo) b → u.heap.size ≤ b) : LM u w' mb mo l 0 (fresh mb bm mo) :=
  ⟨⟨hm, hb, hf⟩, rfl, rfl, rfl, by funext k; simp [MS.abs, fresh, loadAm], rfl, by simp [fresh]⟩
theorem loadKs_stop {mo k : Nat} {l : List Sg} (h : loadKs mo [] (l.take k) = none) : allKs mo l = none := by
  unfold allKs
  rw [← List.take_append_drop k l, loadKs_append, h]
  rfl
set_option maxRecDepth 20000 in
set_option maxHeartbeats 4000000 in
theorem load_yes (w : World) (ao : Option Addr) (cap ent : Nat) (l : List Sg) (z : Int) (h : Segs w ao l) (hcap : l.length ≤ cap) (hmax : cap ≤ 9223372036854775807) (he : ent < 4294967296) (hc : checkE ent l = 0) : Calls Try.prog 9 #[.agg #[.int .u32 (ent : Int), .slice ao l.length cap], .int .i64 z] w (LoadSays w ent l z) := by
  obtain ⟨h8, hok, _, _⟩ := check_facts hc
  have hen := enter_small hc
  obtain ⟨n, hn⟩ : ∃ n, w.heap.size = n := ⟨_, rfl⟩
  obtain ⟨wa, hwa⟩ : ∃ wa, w.alloc (.cells #[.int .u32 (ent : Int), .slice ao l.length cap] 25) = wa := ⟨_, rfl⟩
  have hba : Below n w wa := by rw [← hwa, ← hn]; exact below_new w _
  have hka : Blk wa n #[.int .u32 (ent : Int), .slice ao l.length cap] 25 := by rw [← hwa, ← hn]; exact Blk.new w _ _
  have hsa : wa.heap.size = n + 1 := by rw [← hwa]; simp [hn]
  have H15 : Hid (∀ w1, Blk w1 (n + 1) (stC 0 0 0) 31 → w1.heap.size = n + 1 + 1 → Below (n + 1) wa w1 → w1.cell? ⟨n, 0, none⟩ = some (.int .u32 (ent : Int)) ∧ w1.cell? ⟨n, 1, none⟩ = some (.slice ao l.length cap) ∧ Calls Try.prog 15 #[.agg #[.int .u32 (ent : Int), .slice ao l.length cap]] w1 fun e w' => e = .returned (.int .i64 0) ∧ Below n w w' ∧ Blk w' (n + 1) (stC 0 0 0) 31 ∧ Blk w' n #[.int .u32 (ent : Int), .slice ao l.length cap] 25 ∧ n + 2 ≤ w'.heap.size) := by
    intro w1 hk1 hs1 hb1
    have hw1 : Below n w w1 := hba.trans (hb1.mono (by omega))
    have hk : Blk w1 n #[.int .u32 (ent : Int), .slice ao l.length cap] 25 := (hb1.block n (by omega)).trans hka
    refine ⟨Blk.cell hk rfl, Blk.cell hk rfl, ?_⟩
    refine (check_any w1 ao cap ent l (h.later (by rw [hn]; exact hw1)) hcap hmax he).mono ?_
    rintro e w' ⟨h1, h2⟩
    rw [hc] at h1
    exact ⟨h1, hw1.trans (h2.mono (by omega)), hk1.later h2, hk.later h2, by have := h2.size; omega⟩
  have H26 : Hid (∀ w2, n + 2 ≤ w2.heap.size → Blk w2 n #[.int .u32 (ent : Int), .slice ao l.length cap] 25 → Calls Try.prog 26 #[.int .i64 z] w2 fun e w' => ∃ mb bm, e = .returned (.pointer (some ⟨mb, 0, none⟩)) ∧ LM w2 w' mb (cutMost z) l 0 (fresh mb bm (cutMost z)) ∧ w'.cell? ⟨n, 1, none⟩ = some (.slice ao l.length cap)) := by
    intro w2 hs2 hk2
    refine (newMem_step z w2).mono ?_
    rintro e w' ⟨mb, bm, h1, h2, h3, h4⟩
    exact ⟨mb, bm, h1, LM.start h2 h3 h4, (hk2.later h3).cell rfl⟩
  have H := hidden h
  have HOK := hidden hok
  have HC := hidden hc
  obtain ⟨mo, hmo⟩ : ∃ mo, cutMost z = mo := ⟨_, rfl⟩
  rw [hmo] at H26
  have HMO' := hidden hmo
  clear hmo
  clear h hka hba hc hok
  go_enter Try.func9, Try.ntmps9
  go_wp2_with (first
    | (refine wpList_allocSt rfl rfl ?_; rw [hsa]; rintro w1 hk1 hs1 hb1; obtain ⟨c0, c1, h15⟩ := Hid.out H15 w1 hk1 hs1 hb1; have HH := hidden h15; clear h15 hk1 hb1)
    | (go_at_call 15; with_reducible refine (Hid.out HH).mono ?_; rintro e w2 ⟨rfl, hb2, hk2, hf2, hs2⟩; have HH6 := hidden (Hid.out H26 w2 hs2 hf2); have HB2 := hidden hb2; have HK2 := hidden hk2; have HF2 := hidden hf2; clear hb2 hk2 hf2)
    | (go_at_call 26; with_reducible refine (Hid.out HH6).mono ?_; rintro e w3 ⟨mb, bm, rfl, hm3, d1⟩; have HM3 := hidden hm3; clear hm3))
  clear c0 c1 HH HH6 H15 H26
  go_loopw [24] (fun x24 wr => ∃ (k : Nat) (s : MS), k ≤ l.length ∧ x24 = .int .i64 (k : Int) ∧ LM w2 wr mb mo l k s) (fun x24 _ => l.length - (intOf x24).toNat)
  case atStart => exact ⟨0, _, by omega, rfl, Hid.out HM3⟩
  case round =>
    obtain ⟨k, s, hk, rfl, hL⟩ := hrel
    have HL := hidden hL
    have hbw : Below n w wr := (Hid.out HB2).trans (hL.own.below.mono (by omega))
    have HBW := hidden hbw
    have hst : Blk wr (n + 1) (stC 0 0 0) 31 := (hL.own.below.block (n + 1) (by omega)).trans (Hid.out HK2)
    have hfl : Blk wr n #[.int .u32 (ent : Int), .slice ao l.length cap] 25 := (hL.own.below.block n (by omega)).trans (Hid.out HF2)
    by_cases hkl : k < l.length
    · have hok := Hid.out HOK k hkl
      obtain ⟨b, off, rfl, hlt, hcc⟩ := ((Hid.out H).later (by rw [hn]; exact hbw)).at hkl
      obtain ⟨g, hg⟩ : ∃ g, g = l.getD k nosg := ⟨_, rfl⟩
      have hat := hcc k hkl
      rw [← hg] at hat hok
      obtain ⟨c0, c1, c2, c3, fit⟩ := hat
      have hkl2 : (k : Int) < (l.length : Int) := by omega
      have hbo := below_new wr (.cells #[.int .u32 (g.at_ : Int), .string ⟨g.data.toArray⟩, .int .u32 (g.size : Int), .int .i64 g.perm] 44)
      have hL2 := hL.later hbo
      have h27 := hL2.laid hkl (by rw [← hg]; exact hok)
      rw [← hg] at h27
      have hqb : Blk (wr.alloc (.cells #[.int .u32 (g.at_ : Int), .string ⟨g.data.toArray⟩, .int .u32 (g.size : Int), .int .i64 g.perm] 44)) wr.heap.size #[.int .u32 (g.at_ : Int), .string ⟨g.data.toArray⟩, .int .u32 (g.size : Int), .int .i64 g.perm] 44 := Blk.new wr _ _
      have hqs : (wr.alloc (.cells #[.int .u32 (g.at_ : Int), .string ⟨g.data.toArray⟩, .int .u32 (g.size : Int), .int .i64 g.perm] 44)).heap.size = wr.heap.size + 1 := by simp
      have hnf : ¬ foot s wr.heap.size := fun hf => by have := hL.own.mem.lt hf; omega
      cases hks : loadKs mo [] (l.take (k + 1)) with
      | none =>
        have H27 : Hid (Calls Try.prog 27 #[.pointer (some ⟨mb, 0, none⟩), .int .u32 (g.at_ : Int), .int .u32 (g.size : Int), .int .i64 g.perm] (wr.alloc (.cells #[.int .u32 (g.at_ : Int), .string ⟨g.data.toArray⟩, .int .u32 (g.size : Int), .int .i64 g.perm] 44)) fun e w' => e = .returned (.int .i64 2) ∧ Below w2.heap.size w2 w') := h27.mono (by
          rintro e w' ⟨h1, h2, h3, (⟨h4, s', h5, _⟩ | ⟨h4, h5⟩)⟩
          · have := h5.ks
            rw [hks] at this
            cases this
          · exact ⟨h4, h1⟩)
        have HKN := hidden hks
        have HBN : Hid (∀ w', Below w2.heap.size w2 w' → Blk w' (n + 1) (stC 0 0 0) 31) := fun w' hb => (hb.block (n + 1) (by omega)).trans (Hid.out HK2)
        have HG := hidden hg
        clear hL hbw hst hfl hok hcc fit hbo hL2 h27 hqb hqs hnf hks hg
        go_wp2_with (first
          | (go_at_call 27; with_reducible refine (Hid.out H27).mono ?_; rintro e w4 ⟨rfl, hb4⟩; have HB4 := hidden hb4; clear hb4)
          | (refine wpList_buildSt rfl rfl ?_)
          | (refine wpList_storeSt rfl _ _ rfl (n + 1) (stC 0 0 0) rfl rfl (stC 0 0 0) (Hid.out HBN _ (Hid.out HB4)) (stC_size _ _ _) (stC_size _ _ _) (stC_one _ _ _) ?_; rintro w5 hk5 ho5; have HK5 := hidden hk5; have HO5 := hidden ho5; clear hk5 ho5))
        refine bodyPost_ret (results_tct rfl _ _ (n + 1) _ rfl (load31 (Hid.out HK5))) rfl (.inr (.inl ⟨Hid.out HC, by rw [Hid.out HMO']; exact loadKs_stop (Hid.out HKN), rfl, ?_⟩))
        rw [hn]
        exact only_below ((Hid.out HB2).trans ((Hid.out HB4).mono (by omega))) (Hid.out HO5) (by omega)
      | some ks =>
        have H27 : Hid (Calls Try.prog 27 #[.pointer (some ⟨mb, 0, none⟩), .int .u32 (g.at_ : Int), .int .u32 (g.size : Int), .int .i64 g.perm] (wr.alloc (.cells #[.int .u32 (g.at_ : Int), .string ⟨g.data.toArray⟩, .int .u32 (g.size : Int), .int .i64 g.perm] 44)) fun e w' => e = .returned (.int .i64 0) ∧ (w'.cell? ⟨wr.heap.size, 0, none⟩ = some (.int .u32 (g.at_ : Int)) ∧ w'.cell? ⟨wr.heap.size, 1, none⟩ = some (.string ⟨g.data.toArray⟩) ∧ w'.cell? ⟨wr.heap.size, 2, none⟩ = some (.int .u32 (g.size : Int)) ∧ w'.cell? ⟨wr.heap.size, 3, none⟩ = some (.int .i64 g.perm)) ∧ Calls Try.prog 28 #[.pointer (some ⟨mb, 0, none⟩), .agg #[.int .u32 (g.at_ : Int), .string ⟨g.data.toArray⟩, .int .u32 (g.size : Int), .int .i64 g.perm]] w' fun e w' => e = .returned (.tuple #[]) ∧ ∃ s', LM w2 w' mb mo l (k + 1) s') := h27.mono (by
          rintro e w' ⟨h1, h2, h3, (⟨h4, s', h5, _⟩ | ⟨h4, h5⟩)⟩
          · have hq2 : Blk w' wr.heap.size #[.int .u32 (g.at_ : Int), .string ⟨g.data.toArray⟩, .int .u32 (g.size : Int), .int .i64 g.perm] 44 := (h2 wr.heap.size (by omega) hnf).trans hqb
            have h28 := h5.filled hkl (by omega) (by rw [← hg]; exact hok)
            rw [← hg] at h28
            exact ⟨h4, ⟨hq2.cell rfl, hq2.cell rfl, hq2.cell rfl, hq2.cell rfl⟩, h28⟩
          · rw [hks] at h5
            cases h5)
        have HG := hidden hg
        clear hL hbw hst hfl hok hcc fit hbo hL2 h27 hqb hqs hnf hks hg
        go_wp2_with (first
          | (go_at_call 27; with_reducible refine (Hid.out H27).mono ?_; rintro e w4 ⟨rfl, ⟨e0, e1, e2, e3⟩, h28⟩; have H28 := hidden h28; clear h28)
          | (go_at_call 28; with_reducible refine (Hid.out H28).mono ?_; rintro e w5 ⟨rfl, s5, h5⟩; have H5 := hidden h5; clear h5))
        go_roundw
        case rel => first | exact ⟨k + 1, s5, by omega, by simp, Hid.out H5⟩ | ((repeat apply Exists.intro); first | exact ⟨⟨k + 1, s5, by omega, by simp, Hid.out H5⟩, rfl⟩ | exact ⟨⟨k + 1, s5, by omega, by simp, Hid.out H5⟩, rfl, rfl⟩ | exact ⟨⟨k + 1, s5, by omega, by simp, Hid.out H5⟩, rfl, rfl, rfl⟩)
        case measure => simp [intOf]; omega
    · have hkl2 : ¬ (k : Int) < (l.length : Int) := by omega
      obtain rfl : k = l.length := by omega
      have h27 := hL.stack
      cases hks : allKs mo l with
      | none =>
        have H27 : Hid (Calls Try.prog 27 #[.pointer (some ⟨mb, 0, none⟩), .int .u32 2147479040, .int .u32 512, .int .i64 6] wr fun e w' => e = .returned (.int .i64 2) ∧ Below w2.heap.size w2 w') := h27.mono (by
          rintro e w' ⟨h1, (⟨h4, s', _, h5⟩ | ⟨h4, h5⟩)⟩
          · have := h5.ks
            rw [hks] at this
            cases this
          · exact ⟨h4, h1⟩)
        have HKN := hidden hks
        have HBN : Hid (∀ w', Below w2.heap.size w2 w' → Blk w' (n + 1) (stC 0 0 0) 31) := fun w' hb => (hb.block (n + 1) (by omega)).trans (Hid.out HK2)
        clear hL hbw hst hfl h27 hks
        go_wp2_with (first
          | (go_at_call 27; with_reducible refine (Hid.out H27).mono ?_; rintro e w4 ⟨rfl, hb4⟩; have HB4 := hidden hb4; clear hb4)
          | (refine wpList_buildSt rfl rfl ?_)
          | (refine wpList_storeSt rfl _ _ rfl (n + 1) (stC 0 0 0) rfl rfl (stC 0 0 0) (Hid.out HBN _ (Hid.out HB4)) (stC_size _ _ _) (stC_size _ _ _) (stC_one _ _ _) ?_; rintro w5 hk5 ho5; have HK5 := hidden hk5; have HO5 := hidden ho5; clear hk5 ho5))
        refine bodyPost_ret (results_tct rfl _ _ (n + 1) _ rfl (load31 (Hid.out HK5))) rfl (.inr (.inl ⟨Hid.out HC, by rw [Hid.out HMO']; exact Hid.out HKN, rfl, ?_⟩))
        rw [hn]
        exact only_below ((Hid.out HB2).trans ((Hid.out HB4).mono (by omega))) (Hid.out HO5) (by omega)
      | some ks =>
        have H27 : Hid (Calls Try.prog 27 #[.pointer (some ⟨mb, 0, none⟩), .int .u32 2147479040, .int .u32 512, .int .i64 6] wr fun e w' => e = .returned (.int .i64 0) ∧ w'.cell? ⟨n, 0, none⟩ = some (.int .u32 (ent : Int)) ∧ ∃ s', s'.mb = mb ∧ Loaded w2 w' mo l s' ∧ Calls Try.prog 29 #[.int .u32 (ent : Int)] w' fun e w6 => e = .returned (.agg (stC 2147479536 (ent : Int) ((ent : Int) + 4))) ∧ Loaded w2 w6 mo l s' ∧ Blk w6 (n + 1) (stC 0 0 0) 31) := h27.mono (by
          rintro e w' ⟨h1, (⟨h4, s', h6, h5⟩ | ⟨h4, h5⟩)⟩
          · have hf : Blk w' n #[.int .u32 (ent : Int), .slice ao l.length cap] 25 := (h1.block n (by omega)).trans (Hid.out HF2)
            refine ⟨h4, hf.cell rfl, s', h6, h5, (begin_any w' ent hen).mono ?_⟩
            rintro e w6 ⟨he6, hb6⟩
            have ho := h5.own.step (Step.later h5.own.mem hb6)
            exact ⟨he6, ⟨ho, h5.most, h5.ks, h5.abs, h5.ts⟩, (ho.below.block (n + 1) (by omega)).trans (Hid.out HK2)⟩
          · rw [hks] at h5
            cases h5)
        clear hL hbw hst hfl h27 hks
        go_wp2_with (first
          | (go_at_call 27; with_reducible refine (Hid.out H27).mono ?_; rintro e w4 ⟨rfl, f0, s4, hmb4, h4, h29⟩; have H29 := hidden h29; have HMB4 := hidden hmb4; clear h29 h4 hmb4)
          | (go_at_call 29; with_reducible refine (Hid.out H29).mono ?_; rintro e w6 ⟨rfl, h6, hk6⟩; have H6 := hidden h6; have HK6 := hidden hk6; clear h6 hk6)
          | (refine wpList_storeSt rfl _ _ rfl (n + 1) (stC 2147479536 (ent : Int) ((ent : Int) + 4)) rfl rfl (stC 0 0 0) (Hid.out HK6) (stC_size _ _ _) (stC_size _ _ _) (stC_one _ _ _) ?_; rintro w7 hk7 ho7; have HK7 := hidden hk7; have HO7 := hidden ho7; clear hk7 ho7))
        have h6 := (Hid.out H6).back (by rw [hn]; exact Hid.out HB2)
        have hnf : ¬ foot s4 (n + 1) := fun hf => by have := (Hid.out H6).own.foot _ hf; omega
        refine bodyPost_ret (results_tct rfl _ _ (n + 1) _ rfl (load31 (Hid.out HK7))) rfl (.inr (.inr ⟨Hid.out HC, s4, by rw [Hid.out HMB4]; rfl, ⟨own_only h6.own (Hid.out HO7) (by omega) hnf, by rw [Hid.out HMO']; exact h6.most, by rw [Hid.out HMO']; exact h6.ks, h6.abs, h6.ts⟩⟩))
theorem load_file (w : World) (ao : Option Addr) (cap ent : Nat) (l : List Sg) (z : Int) (h : Segs w ao l) (hcap : l.length ≤ cap) (hmax : cap ≤ 9223372036854775807) (he : ent < 4294967296) : Calls Try.prog 9 #[.agg #[.int .u32 (ent : Int), .slice ao l.length cap], .int .i64 z] w (LoadSays w ent l z) := by
  by_cases hc : checkE ent l = 0
  · exact load_yes w ao cap ent l z h hcap hmax he hc
  · exact load_no w ao cap ent l z h hcap hmax he hc
end Go.Proofs.Ytpknppicamefgaa
