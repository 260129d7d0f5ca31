/- Chapter 7's own Load: a file that its Check refuses. -/
import Derived.Test.YtpknppicamefgaaQMAZ
import Derived.Test.YtpknppicamefgaaQMBA
namespace Go.Proofs.Ytpknppicamefgaa
open Go.ChangeShapes Go.WideShapes Go.ChangeAt Go.RowKit
set_option linter.unusedVariables false
/-- What chapter 7's own Load answers. -/
def OwnSays (w : World) (ent : Nat) (l : List Sg) (z : Int) (e : Ending) (w' : World) : Prop :=
  (checkE ent l ≠ 0 ∧ e = .returned (.tuple #[.pointer none, .agg (stC 0 0 0), .int .i64 (checkE ent l : Int)]) ∧ Below w.heap.size w w') ∨
  (checkE ent l = 0 ∧ allKs (cutMost z) l = none ∧ e = .returned (.tuple #[.pointer none, .agg (stC 0 0 0), .int .i64 2]) ∧ Below w.heap.size w w') ∨
  (checkE ent l = 0 ∧ ∃ mb ks t, allKs (cutMost z) l = some ks ∧ e = .returned (.tuple #[.pointer (some ⟨mb, 0, none⟩), .agg (stC 2147479536 (ent : Int) ((ent : Int) + 4)), .int .i64 0]) ∧ OM w w' mb (cutMost z) ks (allAm l) t)
/-- Both Loads are of one mind: the same pages. -/
theorem Loaded.sim {u v w w' : World} {mb mo : Nat} {ks : List Nat} {l : List Sg} {s : MS} {t : S5} (h : Loaded u w mo l s) (o : OM v w' mb mo ks (allAm l) t) (hk : allKs mo l = some ks) : Sim s t.l :=
  o.g.sim (Option.some.inj (h.ks.symm.trans hk)) h.abs
set_option maxRecDepth 20000 in
set_option maxHeartbeats 2000000 in
theorem rload_no (w : World) (ao : Option Addr) (cap ent : Nat) (l : List Sg) (z : Int) (h : Segs w ao l) (hcap : l.length ≤ cap) (hmax : cap ≤ 9223372036854775807) (he : ent < 4294967296) (hc : checkE ent l ≠ 0) : Calls Try.prog 10 #[.agg #[.int .u32 (ent : Int), .slice ao l.length cap], .int .i64 z] w (OwnSays w ent l z) := by
  obtain ⟨n, hn⟩ : ∃ n, w.heap.size = n := ⟨_, rfl⟩
  obtain ⟨wa, hwa⟩ : ∃ wa, w.alloc (.cells #[.int .u32 (ent : Int), .slice ao l.length cap] 25) = wa := ⟨_, rfl⟩
  have hba : Below n w wa := by rw [← hwa, ← hn]; exact below_new w _
  have hka : Blk wa n #[.int .u32 (ent : Int), .slice ao l.length cap] 25 := by rw [← hwa, ← hn]; exact Blk.new w _ _
  have hsa : wa.heap.size = n + 1 := by rw [← hwa]; simp [hn]
  have H15 : Hid (∀ w1, Blk w1 (n + 1) (stC 0 0 0) 31 → w1.heap.size = n + 1 + 1 → Below (n + 1) wa w1 → w1.cell? ⟨n, 0, none⟩ = some (.int .u32 (ent : Int)) ∧ w1.cell? ⟨n, 1, none⟩ = some (.slice ao l.length cap) ∧ Calls Try.prog 23 #[.agg #[.int .u32 (ent : Int), .slice ao l.length cap]] w1 fun e w' => e = .returned (.int .i64 (checkE ent l : Int)) ∧ Below n w w' ∧ Blk w' (n + 1) (stC 0 0 0) 31) := by
    intro w1 hk1 hs1 hb1
    have hw1 : Below n w w1 := hba.trans (hb1.mono (by omega))
    have hk := (hb1.block n (by omega)).trans hka
    refine ⟨Blk.cell hk rfl, Blk.cell hk rfl, ?_⟩
    refine (rcheck_any w1 ao cap ent l (h.later (by rw [hn]; exact hw1)) hcap hmax he).mono ?_
    rintro e w' ⟨h1, h2⟩
    exact ⟨h1, hw1.trans (h2.mono (by omega)), hk1.later h2⟩
  have hc2 : ¬ (checkE ent l : Int) = 0 := by omega
  have HC := hidden hc
  clear h hka hba hc
  go_enter Try.func10, Try.ntmps10
  go_wp2_with (first
    | (refine wpList_allocSt rfl rfl ?_; rw [hsa]; rintro w1 hk1 hs1 hb1; obtain ⟨c0, c1, h15⟩ := Hid.out H15 w1 hk1 hs1 hb1; have HH := hidden h15; clear h15 hk1 hb1)
    | (go_at_call 23; with_reducible refine (Hid.out HH).mono ?_; rintro e w2 ⟨rfl, hb2, hk2⟩; have HB2 := hidden hb2; have HK2 := hidden hk2; clear hb2 hk2)
    | (refine wpList_buildSt rfl rfl ?_)
    | (refine wpList_storeSt rfl _ _ rfl (n + 1) (stC 0 0 0) rfl rfl (stC 0 0 0) (Hid.out HK2) (stC_size _ _ _) (stC_size _ _ _) (stC_one _ _ _) ?_; rintro w3 hk3 ho3; have HK3 := hidden hk3; have HO3 := hidden ho3; clear hk3 ho3))
  refine bodyPost_ret (results_tct rfl _ _ (n + 1) _ rfl (load31 (Hid.out HK3))) rfl (.inl ⟨Hid.out HC, rfl, ?_⟩)
  rw [hn]
  exact only_below (Hid.out HB2) (Hid.out HO3) (by omega)
end Go.Proofs.Ytpknppicamefgaa
namespace Go.Proofs.Ytpknppicamefgaa
open Go.ChangeShapes Go.WideShapes Go.ChangeAt Go.RowKit
set_option linter.unusedVariables false
theorem pageOf_pg (a j : Nat) : pageOf (pageOf a + 256 * j) = pageOf a + 256 * j := by
  rw [pageOf_div, pageOf_div]
  omega
theorem layKs_stop (mo : Nat) (ks : List Nat) (a : Nat) {j : Nat} (h : layKs mo ks (pgs a j) = none) : ∀ d, layKs mo ks (pgs a (j + d)) = none
  | 0 => h
  | d + 1 => by
    rw [← Nat.add_assoc, pgs_succ, layKs_append, layKs_stop mo ks a h d]
    rfl
theorem OM.page {u w : World} {mb mo : Nat} {ks0 ks : List Nat} {f0 : AM} {t : S5} {z : Int} {a j : Nat} (h : OM u w mb mo ks (layAm f0 z (pgs a j)) t) (hk : layKs mo ks0 (pgs a j) = some ks) (ha : pageOf a + 256 * j < 4294967296) : Calls Try.prog 31 #[.pointer (some ⟨mb, 0, none⟩), .int .u32 ((pageOf a + 256 * j : Nat) : Int), .int .i64 z] w fun e w' => Below u.heap.size u w' ∧ Keep (foot5 t) w w' ∧ ((∃ ks' t', layKs mo ks0 (pgs a (j + 1)) = some ks' ∧ e = .returned (.int .i64 0) ∧ OM u w' mb mo ks' (layAm f0 z (pgs a (j + 1))) t') ∨ ((∀ n, j < n → layKs mo ks0 (pgs a n) = none) ∧ e = .returned (.int .i64 2))) := by
  refine (h.map (pageOf a + 256 * j) z ha).mono ?_
  rintro e w' ⟨h1, h2, h3⟩
  have hs : layKs mo ks0 (pgs a (j + 1)) = layKs mo ks [pageOf a + 256 * j] := by
    rw [pgs_succ, layKs_append, hk]
    rfl
  rw [pageOf_pg] at h3
  refine ⟨h1, h2, ?_⟩
  rcases h3 with ⟨ks', t', g1, g2, g3⟩ | ⟨g1, g2⟩
  · refine .inl ⟨ks', t', hs.trans g1, g2, ?_⟩
    rw [pgs_succ, layAm_snoc]
    exact g3
  · refine .inr ⟨fun n hn => ?_, g2⟩
    obtain ⟨d, rfl⟩ : ∃ d, n = j + 1 + d := ⟨n - (j + 1), by omega⟩
    exact layKs_stop mo ks0 a (hs.trans g1) d
theorem OM.byte {u w : World} {mb mo : Nat} {ks : List Nat} {f0 : AM} {t : S5} {a j : Nat} {d : List UInt8} (h : OM u w mb mo ks (fillAm f0 a d j) t) (ha : a + j < 4294967296) : Calls Try.prog 32 #[.pointer (some ⟨mb, 0, none⟩), .int .u32 ((a + j : Nat) : Int), .int .u8 ((d.getD j 0).toNat : Int)] w fun e w' => (∃ x, e = .returned (.bool x)) ∧ Keep (foot5 t) w w' ∧ ∃ t', OM u w' mb mo ks (fillAm f0 a d (j + 1)) t' := h.poke (a + j) (d.getD j 0) ha
end Go.Proofs.Ytpknppicamefgaa
namespace Go.Proofs.Ytpknppicamefgaa
open Go.ChangeShapes Go.WideShapes Go.ChangeAt Go.RowKit
set_option linter.unusedVariables false
/-- The own memory on the way, beside a block q. -/
structure OQ (u wr : World) (mb mo : Nat) (ks : List Nat) (f : AM) (t : S5) (q : Nat) (C : Array Value) (T : TypeId) : Prop where
  o : OM u wr mb mo ks f t
  nf : ¬ foot5 t q
  blk : Blk wr q C T
theorem OM.later {u wr w' : World} {mb mo : Nat} {ks : List Nat} {f : AM} {t : S5} (h : OM u wr mb mo ks f t) (hb : Below wr.heap.size wr w') : OM u w' mb mo ks f t :=
  ⟨h.mem.later hb, h.new, h.bel.trans (hb.mono h.bel.size), h.m, h.most, h.ts, h.g, h.off, h.room, h.great⟩
theorem OM.back {u v wr : World} {mb mo : Nat} {ks : List Nat} {f : AM} {t : S5} (h : OM v wr mb mo ks f t) (hb : Below u.heap.size u v) : OM u wr mb mo ks f t :=
  ⟨h.mem, fun b hf => Nat.le_trans hb.size (h.new b hf), hb.trans (h.bel.mono hb.size), h.m, h.most, h.ts, h.g, h.off, h.room, h.great⟩
theorem OQ.later {u wr w' : World} {mb mo : Nat} {ks : List Nat} {f : AM} {t : S5} {q : Nat} {C : Array Value} {T : TypeId} (h : OQ u wr mb mo ks f t q C T) (hb : Below wr.heap.size wr w') : OQ u w' mb mo ks f t q C T :=
  ⟨h.o.later hb, h.nf, h.blk.later hb⟩
/-- A new block is none of the memory's. -/
theorem OM.beside {u wr : World} {mb mo : Nat} {ks : List Nat} {f : AM} {t : S5} (h : OM u wr mb mo ks f t) (C : Array Value) (T : TypeId) : OQ u (wr.alloc (.cells C T)) mb mo ks f t wr.heap.size C T :=
  ⟨h.later (below_new _ _), fun hf => by have := h.mem.footLt hf; omega, Blk.new _ _ _⟩
theorem stepQ {w w' : World} {t t' : S5} {q : Nat} {C : Array Value} {T : TypeId} (hs : Step5 w t w' t') (nf : ¬ foot5 t q) (hq : Blk w q C T) : ¬ foot5 t' q ∧ Blk w' q C T := by
  refine ⟨fun hf => ?_, (hs.keep.block q hq.lt nf).trans hq⟩
  rcases hs.grow q hf with h1 | h1
  · exact nf h1
  · have := hq.lt; omega
theorem OQ.map {u w : World} {mb mo : Nat} {ks : List Nat} {f : AM} {t : S5} {q : Nat} {C : Array Value} {T : TypeId} (hh : OQ u w mb mo ks f t q C T) (a : Nat) (z : Int) (ha : a < 4294967296) : Calls Try.prog 31 #[.pointer (some ⟨mb, 0, none⟩), .int .u32 (a : Int), .int .i64 z] w fun e w' => Below u.heap.size u w' ∧ ((∃ ks' t', layKs mo ks [pageOf a] = some ks' ∧ e = .returned (.int .i64 0) ∧ OQ u w' mb mo ks' (amap f a z) t' q C T) ∨ (layKs mo ks [pageOf a] = none ∧ e = .returned (.int .i64 2))) := by
  obtain ⟨h, nf, hq⟩ := hh
  have hl := h.g.len
  have hc := h.mem.mapC a z ha (by have := h.room; have := h.great; omega)
  rw [h.m, h.most] at hc
  refine hc.mono ?_
  rintro e w' ⟨h1, t', hs, e1, e2, e3, hM⟩
  obtain ⟨m1, m2⟩ := h.g.map a z hM
  have hb : Below u.heap.size u w' := h.bel.trans (hs.keep.below h.bel.size fun b hb => h.new b hb)
  obtain ⟨nf', hq'⟩ := stepQ hs nf hq
  refine ⟨hb, ?_⟩
  cases hk : layKs mo ks [pageOf a] with
  | none => exact .inr ⟨rfl, by rw [h1, m2 hk]⟩
  | some ks' =>
    obtain ⟨n1, n2⟩ := m1 ks' hk
    refine .inl ⟨ks', t', rfl, by rw [h1, n1], h.step hs (e1.trans h.m.symm) (e2.trans h.most.symm) (e3.trans h.ts) n2 (offA_amap h.off a z) ?_, nf', hq'⟩
    unfold layKs layKs at hk
    split at hk
    · rw [← Option.some.inj hk]; exact h.room
    · split at hk
      · rw [← Option.some.inj hk, List.length_append, List.length_singleton]; omega
      · cases hk
theorem OQ.poke {u w : World} {mb mo : Nat} {ks : List Nat} {f : AM} {t : S5} {q : Nat} {C : Array Value} {T : TypeId} (hh : OQ u w mb mo ks f t q C T) (a : Nat) (v : UInt8) (ha : a < 4294967296) : Calls Try.prog 32 #[.pointer (some ⟨mb, 0, none⟩), .int .u32 (a : Int), .int .u8 (v.toNat : Int)] w fun e w' => (∃ x, e = .returned (.bool x)) ∧ ∃ t', OQ u w' mb mo ks (apoke f a v) t' q C T := by
  obtain ⟨h, nf, hq⟩ := hh
  have hc := poke5_any w t h.mem a v ha (by rw [h.ts]; simp)
  rw [h.m] at hc
  refine hc.mono ?_
  rintro e w' ⟨h1, t', hs, e1, e2, e3, e4⟩
  have hts : touch5 t.l t.ts a = [] := by
    obtain ⟨s, g1, g2, g3, g4, g5⟩ := h.g
    have hof := off_of_abs (s := s) (by rw [g4]; exact h.off)
    have hw : watch5 t.l (a / 256 * 256) = false := by
      unfold watch5
      by_cases hf : find5 t.l (a / 256 * 256) < t.l.length
      · rw [(g1.at hf).2.2, hof _ ((g1.find _).2 hf), Bool.and_false]
      · simp [hf]
    rw [h.ts]
    unfold touch5
    unfold watch5 at hw
    simp_all
  obtain ⟨nf', hq'⟩ := stepQ hs nf hq
  exact ⟨⟨_, h1⟩, t', h.step hs (e1.trans h.m.symm) e2 (e4.trans hts) (by rw [e3]; exact h.g.poke a v) (offA_apoke h.off a v) h.room, nf', hq'⟩
/-- One page more of a row of pages. -/
theorem OQ.page {u w : World} {mb mo : Nat} {ks0 ks : List Nat} {f0 : AM} {t : S5} {z : Int} {a j : Nat} {q : Nat} {C : Array Value} {T : TypeId} (h : OQ u w mb mo ks (layAm f0 z (pgs a j)) t q C T) (hk : layKs mo ks0 (pgs a j) = some ks) (ha : pageOf a + 256 * j < 4294967296) : Calls Try.prog 31 #[.pointer (some ⟨mb, 0, none⟩), .int .u32 ((pageOf a + 256 * j : Nat) : Int), .int .i64 z] w fun e w' => Below u.heap.size u w' ∧ ((∃ ks' t', layKs mo ks0 (pgs a (j + 1)) = some ks' ∧ e = .returned (.int .i64 0) ∧ OQ u w' mb mo ks' (layAm f0 z (pgs a (j + 1))) t' q C T) ∨ ((∀ n, j < n → layKs mo ks0 (pgs a n) = none) ∧ e = .returned (.int .i64 2))) := by
  refine (h.map (pageOf a + 256 * j) z ha).mono ?_
  rintro e w' ⟨h1, h3⟩
  have hs : layKs mo ks0 (pgs a (j + 1)) = layKs mo ks [pageOf a + 256 * j] := by
    rw [pgs_succ, layKs_append, hk]
    rfl
  rw [pageOf_pg] at h3
  refine ⟨h1, ?_⟩
  rcases h3 with ⟨ks', t', g1, g2, g3⟩ | ⟨g1, g2⟩
  · refine .inl ⟨ks', t', hs.trans g1, g2, ?_⟩
    rw [pgs_succ, layAm_snoc]
    exact g3
  · refine .inr ⟨fun n hn => ?_, g2⟩
    obtain ⟨d, rfl⟩ : ∃ d, n = j + 1 + d := ⟨n - (j + 1), by omega⟩
    exact layKs_stop mo ks0 a (hs.trans g1) d
theorem OQ.byte {u w : World} {mb mo : Nat} {ks : List Nat} {f0 : AM} {t : S5} {a j : Nat} {d : List UInt8} {q : Nat} {C : Array Value} {T : TypeId} (h : OQ u w mb mo ks (fillAm f0 a d j) t q C T) (ha : a + j < 4294967296) : Calls Try.prog 32 #[.pointer (some ⟨mb, 0, none⟩), .int .u32 ((a + j : Nat) : Int), .int .u8 ((d.getD j 0).toNat : Int)] w fun e w' => (∃ x, e = .returned (.bool x)) ∧ ∃ t', OQ u w' mb mo ks (fillAm f0 a d (j + 1)) t' q C T := h.poke (a + j) (d.getD j 0) ha
end Go.Proofs.Ytpknppicamefgaa
