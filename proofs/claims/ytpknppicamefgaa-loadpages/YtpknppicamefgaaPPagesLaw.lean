/- LoadPages: the walk. -/
import Derived.Test.YtpknppicamefgaaPLoadAwake
import Derived.Test.YtpknppicamefgaaPPagesAll
namespace Go.Proofs.Ytpknppicamefgaa
open Go.ChangeShapes Go.WideShapes Go.ChangeAt Go.RowKit
set_option linter.unusedVariables false
theorem layKs_fresh (most : Nat) : ∀ (ps ks : List Nat), ps.Nodup → (∀ p ∈ ps, p ∉ ks) → ks.length ≤ most → layKs most ks ps = if ks.length + ps.length ≤ most then some (ks ++ ps) else none := by
  intro ps
  induction ps with
  | nil => intro ks _ _ h; simp [layKs, h]
  | cons p ps ih =>
    intro ks hnd hout h
    have hp := hout p List.mem_cons_self
    simp only [layKs, if_neg hp]
    rw [List.nodup_cons] at hnd
    by_cases h1 : ks.length < most
    · rw [if_pos h1, ih (ks ++ [p]) hnd.2 (fun q hq hm => ?_) (by simp; omega)]
      · simp only [List.length_append, List.length_cons, List.length_nil, List.append_assoc, List.singleton_append]
        by_cases h2 : ks.length + (0 + 1) + ps.length ≤ most
        · rw [if_pos h2, if_pos (by omega)]
        · rw [if_neg h2, if_neg (by omega)]
      · rcases List.mem_append.1 hm with h3 | h3
        · exact hout q (List.mem_cons_of_mem _ hq) h3
        · simp only [List.mem_singleton] at h3
          subst h3
          exact hnd.1 hq
    · rw [if_neg h1, if_neg (by simp; omega)]
theorem pgs_nd (a k : Nat) : (pgs a k).Nodup := by
  unfold pgs
  exact List.Pairwise.map _ (fun x y h => by omega) List.nodup_range
theorem one_ks {g : Sg} (m : Nat) (hlow : g.at_ + g.size ≤ 2147479040) (hs : 0 < g.size) : allKs m [g] = if cntP g.at_ g.size + 2 ≤ m then some (segPg g ++ stackPg) else none := by
  unfold allKs
  rw [loadKs_one, layKs_fresh m (segPg g) [] (pgs_nd _ _) (fun _ _ h => by cases h) (Nat.zero_le _)]
  have hl : (segPg g).length = cntP g.at_ g.size := pgs_len _ _
  have hst : stackPg.length = 2 := by rw [stack_pages]; rfl
  simp only [List.length_nil, Nat.zero_add, List.nil_append, hl]
  by_cases h1 : cntP g.at_ g.size ≤ m
  · rw [if_pos h1]
    show layKs m (segPg g) stackPg = _
    rw [layKs_fresh m stackPg (segPg g) (pgs_nd _ _) (fun p hp hm => ?_) (by rw [hl]; exact h1), hl, hst]
    rw [stack_pages] at hp
    simp only [segPg, pgs, cntP, List.mem_map, List.mem_range] at hm
    obtain ⟨j, hj, e⟩ := hm
    unfold pageOf at e
    simp only [List.mem_cons, List.not_mem_nil, or_false] at hp
    omega
  · rw [if_neg h1, if_neg (by omega)]
    rfl
theorem perm_permA' (s : MS) (a : Nat) : s.perm a = permA s.abs a := by
  unfold MS.perm permA MS.abs
  by_cases h : pageOf a ∈ s.ks
  · rw [if_pos h, if_pos h]
  · rw [if_neg h, if_neg h]
theorem and_mask (x : Nat) (h : x < 4294967296) : ∃ a : Nat, bits .and .u32 (x : Int) 1073741820 = (a : Int) ∧ a ≤ 1073741820 ∧ a % 4 = 0 := by
  refine ⟨(BitVec.ofInt 32 (x : Int) &&& BitVec.ofInt 32 1073741820).toNat, ?_, ?_, ?_⟩
  · show IntKind.u32.wrap ((BitVec.ofInt 32 (x : Int) &&& BitVec.ofInt 32 1073741820).toNat : Nat) = _
    rw [IntKind.wrap_u32]
    have := (BitVec.ofInt 32 (x : Int) &&& BitVec.ofInt 32 1073741820).isLt
    omega
  · rw [BitVec.toNat_and]
    exact Nat.and_le_right
  · rw [BitVec.toNat_and]
    have e : (BitVec.ofInt 32 1073741820).toNat = 1073741820 := by decide
    rw [e, show (4 : Nat) = 2 ^ 2 from rfl, Nat.and_mod_two_pow]
    show _ &&& 0 = 0
    exact Nat.and_zero _
theorem one_ok {a n : Nat} (ha : a ≤ 1073741820) (h4 : a % 4 = 0) (hn : 1 ≤ n) (hn2 : n ≤ 4000) : checkE a [⟨a, [], n, 5⟩] = 0 := by
  have h1 : okB ⟨a, [], n, 5⟩ = true := by
    unfold okB fitsB
    simp
    omega
  have h2 : overB [⟨a, [], n, 5⟩] = false := by
    simp [overB]
  have h3 : enterB a [⟨a, [], n, 5⟩] = true := by
    unfold enterB runsB
    simp
    omega
  unfold checkE
  rw [if_neg (by simp), h2, h3]
  simp [h1]
theorem one_perms {a n : Nat} (ha : a ≤ 1073741820) (h4 : a % 4 = 0) (hn : 1 ≤ n) (hn2 : n ≤ 4000) : permA (allAm [⟨a, [], n, 5⟩]) (a + n - 1) = 5 ∧ permA (allAm [⟨a, [], n, 5⟩]) 2147479040 = 6 := by
  have hc := one_ok ha h4 hn hn2
  obtain ⟨h1, h2, _⟩ := load_holds hc (i := 0) (k := n - 1) (by simp) (show n - 1 < n by omega)
  have e : ([⟨a, [], n, 5⟩] : List Sg).getD 0 nosg = ⟨a, [], n, 5⟩ := rfl
  rw [e] at h1 h2
  simp only at h1 h2
  rw [show a + (n - 1) = a + n - 1 by omega] at h1 h2
  obtain ⟨_, hok, _, _⟩ := check_facts hc
  have hg := hok 0 (by simp)
  rw [e] at hg
  obtain ⟨s1, s2, s3, s4, s5⟩ := segAm_all (f := fun _ => none) (fun _ _ h => by cases h) hg
  unfold allAm
  constructor
  · rw [permA_lay_out stackPg fun p hp he => ?_, h2]
    rw [stack_pages] at hp
    simp only [List.mem_cons, List.not_mem_nil, or_false] at hp
    unfold pageOf at he
    omega
  · rw [(permA_lay_in stackPg (pgs_nodup _ _) ⟨2147479040, by rw [stack_pages]; simp, rfl⟩).1 fun hi => ?_]
    · rfl
    · rcases (s2 2147479040).1 hi with ⟨j, hj, hp⟩ | ⟨x, hx⟩
      · unfold pageOf at hp
        simp only at hj hp
        omega
      · cases hx
set_option maxRecDepth 20000 in
set_option maxHeartbeats 4000000 in
theorem pages_no (w : World) (x y a n P : Nat) (z : Int) (hx : x < 4294967296) (hy : y < 4294967296) (hand : bits .and .u32 (x : Int) 1073741820 = (a : Int)) (ha : a ≤ 1073741820) (h4 : a % 4 = 0) (hn : (1 : Int) + (y : Int) % 4000 = (n : Int)) (hn1 : 1 ≤ n ∧ n ≤ 4000) (hP : ((a : Int) % 256 + (n : Int) + 255) / 256 = (P : Int)) (hz : z < (P : Int) + 2) : Calls Try.prog 6 #[.int .u32 (x : Int), .int .u32 (y : Int), .int .i64 z] w fun e w' => e = .returned (.bool true) ∧ Below w.heap.size w w' := by
  obtain ⟨nb, hnb⟩ : ∃ nb, w.heap.size = nb := ⟨_, rfl⟩
  obtain ⟨W0, hW0⟩ : ∃ W0, (w.alloc (.cells #[.int .u32 (a : Int), .string ⟨#[]⟩, .int .u32 (n : Int), .int .i64 5] 44)).alloc (.cells #[.int .u32 (a : Int), .slice (some ⟨nb, 0, none⟩) 1 1] 25) = W0 := ⟨_, rfl⟩
  have hb0 : Below nb w W0 := by rw [← hW0, ← hnb]; exact ((Below.refl _ w).alloc (Nat.le_refl _) _).alloc (by simp) _
  have hk0 : Blk W0 nb #[.int .u32 (a : Int), .string ⟨#[]⟩, .int .u32 (n : Int), .int .i64 5] 44 := by rw [← hW0, ← hnb]; exact (heap_alloc_old _ _ (by simp)).trans (Blk.new w _ _)
  have hk1 : Blk W0 (nb + 1) #[.int .u32 (a : Int), .slice (some ⟨nb, 0, none⟩) 1 1] 25 := by
    have := Blk.new (w.alloc (.cells #[.int .u32 (a : Int), .string ⟨#[]⟩, .int .u32 (n : Int), .int .i64 5] 44)) #[.int .u32 (a : Int), .slice (some ⟨nb, 0, none⟩) 1 1] 25
    rw [World.size_alloc, hnb] at this
    rw [← hW0]; exact this
  have q0 : W0.cell? ⟨nb + 1, 0, none⟩ = some (.int .u32 (a : Int)) := hk1.cell rfl
  have q1 : W0.cell? ⟨nb + 1, 1, none⟩ = some (.slice (some ⟨nb, 0, none⟩) 1 1) := hk1.cell rfl
  have hfile := load_file W0 (some ⟨nb, 0, none⟩) 1 a [⟨a, [], n, 5⟩] z (segs_one4 (g := ⟨a, [], n, 5⟩) hk0 ⟨by show a < 4294967296; omega, by show n < 4294967296; omega, by simp⟩) (by simp) (by omega) (by omega)
  have hok := one_ok ha h4 hn1.1 hn1.2
  have hks := one_ks (g := ⟨a, [], n, 5⟩) (cutMost z) (by show a + n ≤ 2147479040; omega) (by show 0 < n; omega)
  simp only at hks
  have hPn : cntP a n = P := by unfold cntP; omega
  rw [hPn] at hks
  have hsz := hb0.size
  rw [if_neg (by unfold cutMost; omega)] at hks
  have H9 : Hid (Calls Try.prog 9 #[.agg #[.int .u32 (a : Int), .slice (some ⟨nb, 0, none⟩) 1 1], .int .i64 z] W0 fun e w1 => e = .returned (.tuple #[.pointer none, .agg (stC 0 0 0), .int .i64 2]) ∧ ∃ g, w1.heap.size = g ∧ ∀ w2 w3, Blk w3 g (stC 0 0 0) 31 → Below g w1 w2 → Only g w2 w3 → w3.cell? ⟨g, 34, none⟩ = some (.int .u32 0) ∧ Calls Try.prog 8 #[] w3 fun e w4 => e = .returned (.bool true) ∧ Below nb w w4) := by
    refine Calls.mono hfile ?_
    rintro e w1 (⟨h1, _⟩ | ⟨_, _, h2, h3⟩ | ⟨_, s, _, hL⟩)
    · exact absurd hok h1
    · refine ⟨h2, w1.heap.size, rfl, fun w2 w3 hk3 hb2 ho3 => ⟨hk3.cell rfl, (wake_any w3).mono ?_⟩⟩
      rintro e w4 ⟨h5, h6⟩
      have b1 : Below nb w w1 := hb0.trans (h3.mono (by omega))
      have hz1 := b1.size
      have b2 : Below nb w w2 := b1.trans (hb2.mono (by omega))
      have b3 : Below nb w w3 := only_below b2 ho3 (by omega)
      have hz3 := b3.size
      exact ⟨h5, b3.trans (h6.mono (by omega))⟩
    · have := hL.ks
      rw [hks] at this
      cases this
  clear hb0 hk0 hk1 hfile hok hks hPn hsz
  go_enter Try.func6, Try.ntmps6
  go_wp2_with (first
    | (go_at_call 9; with_reducible refine (Hid.out H9).mono ?_; rintro e w1 ⟨rfl, g, hg1, hf⟩; have HF := hidden hf; clear hf)
    | (refine wpList_allocSt rfl rfl ?_; rw [hg1]; rintro w2 hk2 hs2 hb2; have HK2 := hidden hk2; have HB2 := hidden hb2; clear hk2 hb2)
    | (refine wpList_storeSt rfl _ _ rfl g (stC 0 0 0) rfl rfl (stC 0 0 0) (Hid.out HK2) (stC_size _ _ _) (stC_size _ _ _) (stC_one _ _ _) ?_; rintro w3 hk3 ho3; obtain ⟨c34, h8⟩ := Hid.out HF w2 w3 hk3 (Hid.out HB2) ho3; have H8 := hidden h8; clear hk3 ho3 h8)
    | (go_at_call 8; with_reducible refine (Hid.out H8).mono ?_; rintro e w4 ⟨rfl, hb4⟩; have HB4 := hidden hb4; clear hb4))
  go_ret
  exact ⟨rfl, by rw [hnb]; exact Hid.out HB4⟩
set_option maxRecDepth 20000 in
set_option maxHeartbeats 4000000 in
theorem pages_yes (w : World) (x y a n P : Nat) (z : Int) (hx : x < 4294967296) (hy : y < 4294967296) (hand : bits .and .u32 (x : Int) 1073741820 = (a : Int)) (ha : a ≤ 1073741820) (h4 : a % 4 = 0) (hn : (1 : Int) + (y : Int) % 4000 = (n : Int)) (hn1 : 1 ≤ n ∧ n ≤ 4000) (hP : ((a : Int) % 256 + (n : Int) + 255) / 256 = (P : Int)) (hz : ¬ z < (P : Int) + 2) : Calls Try.prog 6 #[.int .u32 (x : Int), .int .u32 (y : Int), .int .i64 z] w fun e w' => e = .returned (.bool true) ∧ Below w.heap.size w w' := by
  obtain ⟨nb, hnb⟩ : ∃ nb, w.heap.size = nb := ⟨_, rfl⟩
  obtain ⟨W0, hW0⟩ : ∃ W0, (w.alloc (.cells #[.int .u32 (a : Int), .string ⟨#[]⟩, .int .u32 (n : Int), .int .i64 5] 44)).alloc (.cells #[.int .u32 (a : Int), .slice (some ⟨nb, 0, none⟩) 1 1] 25) = W0 := ⟨_, rfl⟩
  have hb0 : Below nb w W0 := by rw [← hW0, ← hnb]; exact ((Below.refl _ w).alloc (Nat.le_refl _) _).alloc (by simp) _
  have hk0 : Blk W0 nb #[.int .u32 (a : Int), .string ⟨#[]⟩, .int .u32 (n : Int), .int .i64 5] 44 := by rw [← hW0, ← hnb]; exact (heap_alloc_old _ _ (by simp)).trans (Blk.new w _ _)
  have hk1 : Blk W0 (nb + 1) #[.int .u32 (a : Int), .slice (some ⟨nb, 0, none⟩) 1 1] 25 := by
    have := Blk.new (w.alloc (.cells #[.int .u32 (a : Int), .string ⟨#[]⟩, .int .u32 (n : Int), .int .i64 5] 44)) #[.int .u32 (a : Int), .slice (some ⟨nb, 0, none⟩) 1 1] 25
    rw [World.size_alloc, hnb] at this
    rw [← hW0]; exact this
  have q0 : W0.cell? ⟨nb + 1, 0, none⟩ = some (.int .u32 (a : Int)) := hk1.cell rfl
  have q1 : W0.cell? ⟨nb + 1, 1, none⟩ = some (.slice (some ⟨nb, 0, none⟩) 1 1) := hk1.cell rfl
  have hfile := load_file W0 (some ⟨nb, 0, none⟩) 1 a [⟨a, [], n, 5⟩] z (segs_one4 (g := ⟨a, [], n, 5⟩) hk0 ⟨by show a < 4294967296; omega, by show n < 4294967296; omega, by simp⟩) (by simp) (by omega) (by omega)
  have hok := one_ok ha h4 hn1.1 hn1.2
  have hks := one_ks (g := ⟨a, [], n, 5⟩) (cutMost z) (by show a + n ≤ 2147479040; omega) (by show 0 < n; omega)
  simp only at hks
  have hPn : cntP a n = P := by unfold cntP; omega
  rw [hPn] at hks
  have hsz := hb0.size
  rw [if_pos (by unfold cutMost; omega)] at hks
  obtain ⟨p1, p2⟩ := one_perms ha h4 hn1.1 hn1.2
  have hP64 : ¬ (64 : Int) < (P : Int) + 2 := by omega
  have H9 : Hid (Calls Try.prog 9 #[.agg #[.int .u32 (a : Int), .slice (some ⟨nb, 0, none⟩) 1 1], .int .i64 z] W0 fun e w1 => ∃ mb g, e = .returned (.tuple #[.pointer (some ⟨mb, 0, none⟩), .agg (stC 2147479536 (a : Int) ((a : Int) + 4)), .int .i64 0]) ∧ w1.heap.size = g ∧ ∀ w2 w3, Below g w1 w2 → Only g w2 w3 → Calls Try.prog 24 #[.pointer (some ⟨mb, 0, none⟩)] w3 fun e w4 => ∃ ao cap, e = .returned (.slice ao (P + 2) cap) ∧ Calls Try.prog 17 #[.pointer (some ⟨mb, 0, none⟩), .int .u32 ((a : Int) + (n : Int) - 1)] w4 fun e w5 => e = .returned (.int .i64 5) ∧ Calls Try.prog 17 #[.pointer (some ⟨mb, 0, none⟩), .int .u32 2147479040] w5 fun e w6 => e = .returned (.int .i64 6) ∧ Calls Try.prog 25 #[.pointer (some ⟨mb, 0, none⟩), .int .u32 2147479552] w6 fun e w7 => e = .returned (.bool false) ∧ Calls Try.prog 8 #[] w7 fun e w8 => e = .returned (.bool true) ∧ Below nb w w8) := by
    refine Calls.mono hfile ?_
    rintro e w1 (⟨h1, _⟩ | ⟨_, h1, _⟩ | ⟨_, s, he, hL⟩)
    · exact absurd hok h1
    · rw [hks] at h1; cases h1
    · refine ⟨s.mb, w1.heap.size, he, rfl, fun w2 w3 hb2 ho3 => ?_⟩
      have hks2 : s.ks = segPg ⟨a, [], n, 5⟩ ++ stackPg := by
        have := hL.ks
        rw [hks] at this
        exact (Option.some.inj this).symm
      have hklen : s.ks.length = P + 2 := by
        rw [hks2, List.length_append, stack_pages]
        show (pgs a (cntP a n)).length + 2 = _
        rw [pgs_len, hPn]
      have ho2 := hL.own.step (Step.later hL.own.mem hb2)
      have hg2 : W0.heap.size ≤ w1.heap.size := hL.own.below.size
      have hnf : ¬ foot s w1.heap.size := fun hf => by have := hL.own.mem.lt hf; omega
      have ho4 := own_only ho2 ho3 hg2 hnf
      refine (pages_all w3 s ho4.mem).mono ?_
      rintro e w4 ⟨ao, cap, l, he4, hp, _, _, hb4⟩
      have hl : l.length = P + 2 := by rw [hp.length_eq, hklen]
      rw [hl] at he4
      have hm4 := ho4.mem.later hb4
      have b4 : Below nb w w4 := (hb0.trans (ho4.below.mono (by omega))).trans (hb4.mono (by have := ho4.below.size; omega))
      have hq1 := permOf_any w4 s (a + n - 1) hm4 (by omega)
      rw [perm_permA', hL.abs, p1, show ((a + n - 1 : Nat) : Int) = (a : Int) + (n : Int) - 1 by omega] at hq1
      refine ⟨ao, cap, he4, hq1.mono ?_⟩
      rintro e w5 ⟨he5, m5, rfl⟩
      have hq2 := permOf_any (w4.drewN m5) s 2147479040 (hm4.drewN m5) (by omega)
      rw [perm_permA', hL.abs, p2] at hq2
      refine ⟨he5, Calls.mono hq2 ?_⟩
      rintro e w6 ⟨he6, m6, rfl⟩
      have hq3 := mapped_any ((w4.drewN m5).drewN m6) s 2147479552 ((hm4.drewN m5).drewN m6) (by omega)
      have hnin : pageOf 2147479552 ∉ s.ks := by
        rw [hks2, stack_pages, show pageOf 2147479552 = 2147479552 from by decide]
        intro hx
        rcases List.mem_append.1 hx with hx | hx
        · simp only [segPg, pgs, cntP, List.mem_map, List.mem_range] at hx
          obtain ⟨j, hj, e⟩ := hx
          unfold pageOf at e
          omega
        · simp at hx
      rw [decide_eq_false hnin] at hq3
      refine ⟨he6, Calls.mono hq3 ?_⟩
      rintro e w7 ⟨he7, m7, rfl⟩
      refine ⟨he7, (wake_any _).mono ?_⟩
      rintro e w8 ⟨he8, b8⟩
      have hz4 := b4.size
      exact ⟨he8, (below_drewN (below_drewN (below_drewN b4 m5) m6) m7).trans (b8.mono (by show nb ≤ w4.heap.size; omega))⟩
  clear hb0 hk0 hk1 hfile hok hks hPn hsz p1 p2
  have T1 : Hid True := trivial
  go_enter Try.func6, Try.ntmps6
  go_wp2_with (first
    | (go_at_call 9; with_reducible refine (Hid.out H9).mono ?_; rintro e w1 ⟨mb, g, rfl, hg1, hf⟩; have HF := hidden hf; clear hf)
    | (refine wpList_allocSt rfl rfl ?_; rw [hg1]; rintro w2 hk2 hs2 hb2; have HK2 := hidden hk2; have HB2 := hidden hb2; clear hk2 hb2)
    | (refine wpList_storeSt rfl _ _ rfl g (stC 2147479536 (a : Int) ((a : Int) + 4)) rfl rfl (stC 0 0 0) (Hid.out HK2) (stC_size _ _ _) (stC_size _ _ _) (stC_one _ _ _) ?_; rintro w3 hk3 ho3; have H24 := hidden (Hid.out HF w2 w3 (Hid.out HB2) ho3); clear hk3 ho3)
    | (go_at_call 24; with_reducible refine (Hid.out H24).mono ?_; rintro e w4 ⟨ao, cap, rfl, h17⟩; have H17 := hidden h17; clear h17)
    | (clear T1; go_at_call 17; with_reducible refine (Hid.out H17).mono ?_; rintro e w5 ⟨rfl, h17⟩; have H17b := hidden h17; clear h17)
    | (go_at_call 17; with_reducible refine (Hid.out H17b).mono ?_; rintro e w6 ⟨rfl, h25⟩; have H25 := hidden h25; clear h25)
    | (go_at_call 25; with_reducible refine (Hid.out H25).mono ?_; rintro e w7 ⟨rfl, h8⟩; have H8 := hidden h8; clear h8)
    | (go_at_call 8; with_reducible refine (Hid.out H8).mono ?_; rintro e w8 ⟨rfl, hb8⟩; have HB8 := hidden hb8; clear hb8))
  go_ret
  exact ⟨rfl, by rw [hnb]; exact Hid.out HB8⟩
theorem loadPages_any (w : World) (x y : Nat) (z : Int) (hx : x < 4294967296) (hy : y < 4294967296) : Calls Try.prog 6 #[.int .u32 (x : Int), .int .u32 (y : Int), .int .i64 z] w fun e w' => e = .returned (.bool true) ∧ Below w.heap.size w w' := by
  obtain ⟨a, hand, ha, h4⟩ := and_mask x hx
  obtain ⟨n, hn⟩ : ∃ n : Nat, (1 : Int) + (y : Int) % 4000 = (n : Int) := ⟨1 + y % 4000, by omega⟩
  have hn1 : 1 ≤ n ∧ n ≤ 4000 := by omega
  obtain ⟨P, hP⟩ : ∃ P : Nat, ((a : Int) % 256 + (n : Int) + 255) / 256 = (P : Int) := ⟨(a % 256 + n + 255) / 256, by omega⟩
  by_cases hz : z < (P : Int) + 2
  · exact pages_no w x y a n P z hx hy hand ha h4 hn hn1 hP hz
  · exact pages_yes w x y a n P z hx hy hand ha h4 hn hn1 hP hz
end Go.Proofs.Ytpknppicamefgaa
