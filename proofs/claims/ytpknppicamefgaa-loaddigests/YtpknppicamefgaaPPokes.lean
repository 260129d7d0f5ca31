/- Watch, Touched, Poke. -/
import Derived.Test.YtpknppicamefgaaPMaps
namespace Go.Proofs.Ytpknppicamefgaa
open Go.ChangeShapes Go.WideShapes Go.ChangeAt Go.RowKit
set_option linter.unusedVariables false
def MS.watch (s : MS) (k : Nat) (b : Bool) : MS := { s with on := upd s.on k b }
theorem watch_memW {w w' : World} {s : MS} {k : Nat} {b : Bool} (h : MemW w s) (hk : k ∈ s.ks) (hw : w' = w.setCell ⟨s.hb k, 1, none⟩ (.bool b)) : MemW w' (s.watch k b) ∧ Keep (· = s.hb k) w w' := by
  subst hw
  have out : ∀ q, q ≠ s.hb k → (w.setCell ⟨s.hb k, 1, none⟩ (.bool b)).heap[q]? = w.heap[q]? := fun q hq => Below.heap_setCell _ _ _ _ hq
  refine ⟨⟨(out _ (h.hb_ne_mb hk).symm).trans h.self, (out _ (h.hb_ne_bm hk).symm).trans h.map, fun j hj => ?_, fun j hj => ?_, h.nodup, h.hbi, h.pbi, h.key, h.perm, h.room, h.great, ownsRow_same h.touched fun g hg => out g (h.tv_ne_hb hg hk), h.few⟩, keep_setCell _ _ _ _⟩
  · by_cases e : j = k
    · subst e
      rw [show (s.watch j b).hb j = s.hb j from rfl, heap_setCell_same _ _ _ _ _ _ (h.held j hj)]
      simp [hcells, MS.watch, upd]
    · rw [show (s.watch k b).hb j = s.hb j from rfl, out _ fun e' => e (h.hbi j hj k hk e'), h.held j hj]
      simp [hcells, MS.watch, upd, e]
  · obtain ⟨n, h0, h1, hp⟩ := h.page j hj
    exact ⟨n, h0, h1, hp.same (out _ (h.pb_ne_hb hj hk))⟩
def MS.told (s : MS) : MS := { s with tv := .slice none 0 0, ts := [] }
theorem told_memW {w : World} {s : MS} (h : MemW w s) : MemW (w.setCell ⟨s.mb, 3, none⟩ (.slice none 0 0)) s.told := by
  have out : ∀ q, q ≠ s.mb → (w.setCell ⟨s.mb, 3, none⟩ (.slice none 0 0)).heap[q]? = w.heap[q]? := fun q hq => Below.heap_setCell _ _ _ _ hq
  refine ⟨?_, (out _ h.mb_ne_bm.symm).trans h.map, fun j hj => (out _ (h.hb_ne_mb hj)).trans (h.held j hj), fun j hj => ?_, h.nodup, h.hbi, h.pbi, h.key, h.perm, h.room, h.great, World.ownsRow_nil _ _ _ _, Nat.zero_le _⟩
  · rw [show s.told.mb = s.mb from rfl, heap_setCell_same _ _ _ _ _ _ h.self]
    simp [mcells, MS.told]
  · obtain ⟨n, h0, h1, hp⟩ := h.page j hj
    exact ⟨n, h0, h1, hp.same (out _ (h.pb_ne_mb hj))⟩
theorem row_slice {w : World} {base size n : Nat} {e : TypeId} {v : Value} {xs : List Value} (h : w.ownsRow base e size v n xs) : ∃ ao n cap, v = .slice ao n cap := by
  rcases h.2 with ⟨e, _⟩ | ⟨g, cap, cur, e, _⟩
  · exact ⟨_, _, _, e⟩
  · exact ⟨_, _, _, e⟩
theorem tv_slice {w : World} {s : MS} (h : MemW w s) : ∃ ao n cap, s.tv = .slice ao n cap := by
  rcases h.touched.2 with ⟨e, _⟩ | ⟨g, cap, cur, e, _⟩
  · exact ⟨_, _, _, e⟩
  · exact ⟨_, _, _, e⟩
theorem touched_any (w : World) (s : MS) (h : MemW w s) : Calls Try.prog 19 #[.pointer (some ⟨s.mb, 0, none⟩)] w fun e w' => e = .returned s.tv ∧ MemW w' s.told ∧ Keep (· = s.mb) w w' := by
  obtain ⟨ao, n, cap, htv⟩ := tv_slice h
  have hc := h.cell3
  have hz := h.thaw 3
  have HM := hidden (told_memW h)
  have HK := hidden (keep_setCell w s.mb 3 (.slice none 0 0))
  rw [htv] at hc ⊢
  clear h htv
  go_enter Try.func19, Try.ntmps19
  go_wp2
  go_ret
  exact ⟨rfl, Hid.out HM, Hid.out HK⟩
/-- A byte set, and told where it is watched. -/
def MS.poke (s : MS) (a : Nat) (v : UInt8) (tv : Value) : MS :=
  { s with data := upd s.data (pageOf a) ((s.data (pageOf a)).set (a % 256) v), tv := tv, ts := if s.on (pageOf a) then s.ts ++ [a] else s.ts, c := s.c + 1 }
theorem setB_nat (l : List UInt8) (j : Nat) (v : UInt8) (h : j < 256) : setB l (j : Int) v = l.set j v := by
  unfold setB
  rw [if_pos ⟨by omega, by omega⟩, Int.toNat_natCast]
theorem cntB_nat (n : Int) (j : Nat) (h : j < 256) : cntB n (j : Int) = n + 1 := by
  unfold cntB
  rw [if_pos ⟨by omega, by omega⟩]
theorem poke_quiet {w w2 : World} {s : MS} {a : Nat} {v : UInt8} {n : Int} (h : MemW w s) (hk : pageOf a ∈ s.ks) (hon : s.on (pageOf a) = false) (h0 : 0 ≤ n) (hn : n ≤ (s.c : Int)) (hp : Pg 109 w2 (s.pb (pageOf a)) ((s.data (pageOf a)).set (a % 256) v) (s.pm (pageOf a)) (n + 1)) (ho : Only (s.pb (pageOf a)) w w2) : MemW w2 (s.poke a v s.tv) := by
  have out : ∀ q, q ≠ s.pb (pageOf a) → w2.heap[q]? = w.heap[q]? := fun q hq => ho.block q hq
  have hf := h.few
  refine ⟨(out _ (h.pb_ne_mb hk).symm).trans h.self, (out _ (h.pb_ne_bm hk).symm).trans h.map, fun j hj => (out _ (h.pb_ne_hb hk hj).symm).trans (h.held j hj), fun j hj => ?_, h.nodup, h.hbi, h.pbi, h.key, h.perm, h.room, h.great, ?_, ?_⟩
  · by_cases e : j = pageOf a
    · subst e
      refine ⟨n + 1, by omega, by simp only [MS.poke]; omega, ?_⟩
      simp only [MS.poke, upd_same]
      exact hp
    · obtain ⟨m, h0, h1, hq⟩ := h.page j hj
      refine ⟨m, h0, by simp only [MS.poke]; omega, ?_⟩
      simp only [MS.poke, upd_other _ _ e]
      exact hq.same (out _ fun e' => e (h.pbi j hj _ hk e'))
  · simp only [MS.poke, hon, Bool.false_eq_true, if_false]
    exact ownsRow_same h.touched fun g hg => out g (h.tv_ne_pb hg hk)
  · simp only [MS.poke, hon, Bool.false_eq_true, if_false]
    omega
theorem info27 : (Try.prog.info? 22).map (fun i => (i.zero, i.size, i.bytes)) = some (some (.int .u32 0), 1, 4) := by kernel_rfl
/-- The list of what was touched, grown, and laid down. -/
theorem poke_loud {w w2 w3 : World} {s : MS} {a : Nat} {v : UInt8} {n : Int} {tv : Value} (h : MemW w s) (hk : pageOf a ∈ s.ks) (hon : s.on (pageOf a) = true) (h0 : 0 ≤ n) (hn : n ≤ (s.c : Int)) (hp : Pg 109 w2 (s.pb (pageOf a)) ((s.data (pageOf a)).set (a % 256) v) (s.pm (pageOf a)) (n + 1)) (ho : Only (s.pb (pageOf a)) w w2)
    (hgr : w2.grownBy w3 s.tv.ownBlock) (hrow : w3.ownsRow 0 22 1 tv (s.ts.length + 1) (words s.ts ++ [.int .u32 (a : Int)])) (hloc : tv.ownBlock = s.tv.ownBlock ∨ ∃ b, w2.heap.size ≤ b ∧ tv.ownBlock = some b) : MemW (w3.setCell ⟨s.mb, 3, none⟩ tv) (s.poke a v tv) := by
  have hlt := fun b hb => h.lt (b := b) hb
  have hsz := ho.size
  have out : ∀ q, foot s q → q ≠ s.pb (pageOf a) → s.tv.ownBlock ≠ some q → w3.heap[q]? = w.heap[q]? := fun q hf hq ht => (hgr.block q (by rw [hsz]; exact hlt q hf) (fun e => ht e.symm)).trans (ho.block q hq)
  have out2 : ∀ q, q ≠ s.mb → (w3.setCell ⟨s.mb, 3, none⟩ tv).heap[q]? = w3.heap[q]? := fun q hq => Below.heap_setCell _ _ _ _ hq
  have hf := h.few
  have fmb : foot s s.mb := .inl rfl
  have hself : w3.heap[s.mb]? = some (.cells (mcells s) 85 (0, 0)) := (out _ fmb (h.pb_ne_mb hk).symm (fun e => h.tv_ne_mb e rfl)).trans h.self
  refine ⟨?_, ?_, ?_, fun j hj => ?_, h.nodup, h.hbi, h.pbi, h.key, h.perm, h.room, h.great, ?_, ?_⟩
  · rw [show (s.poke a v tv).mb = s.mb from rfl, heap_setCell_same _ _ _ _ _ _ hself]
    simp [mcells, MS.poke]
  · exact (out2 _ h.mb_ne_bm.symm).trans ((out _ (.inr (.inl rfl)) (h.pb_ne_bm hk).symm (fun e => h.tv_ne_bm e rfl)).trans h.map)
  · intro j hj
    exact (out2 _ (h.hb_ne_mb hj)).trans ((out _ (.inr (.inr (.inl ⟨j, hj, rfl⟩))) (h.pb_ne_hb hk hj).symm (fun e => h.tv_ne_hb e hj rfl)).trans (h.held j hj))
  · have fpb : foot s (s.pb j) := .inr (.inr (.inr (.inl ⟨j, hj, rfl⟩)))
    by_cases e : j = pageOf a
    · subst e
      refine ⟨n + 1, by omega, by simp only [MS.poke]; omega, ?_⟩
      simp only [MS.poke, upd_same]
      exact hp.same ((out2 _ (h.pb_ne_mb hj)).trans (hgr.block _ (by rw [hsz]; exact hlt _ fpb) (fun e => h.tv_ne_pb e.symm hj rfl)))
    · obtain ⟨m, h0, h1, hq⟩ := h.page j hj
      refine ⟨m, h0, by simp only [MS.poke]; omega, ?_⟩
      simp only [MS.poke, upd_other _ _ e]
      exact hq.same ((out2 _ (h.pb_ne_mb hj)).trans (out _ fpb (fun e' => e (h.pbi j hj _ hk e')) (fun e => h.tv_ne_pb e hj rfl)))
  · simp only [MS.poke, hon, if_true]
    rw [List.length_append, List.length_singleton, words_append]
    refine ownsRow_same hrow fun g hg => out2 g ?_
    rcases hloc with hl | ⟨b, hb, hl⟩
    · rw [hl] at hg
      exact h.tv_ne_mb hg
    · rw [hl] at hg
      obtain rfl : b = g := by simpa using hg
      have := hlt _ fmb
      omega
  · simp only [MS.poke, hon, if_true, List.length_append, List.length_singleton]
    omega
/-- The page's part of Poke: the byte is set. -/
theorem poke_set (w : World) (s : MS) (a : Nat) (v : UInt8) (h : MemW w s) (hk : pageOf a ∈ s.ks) (hc : s.c < 4611686018427387904) : ∃ n : Int, 0 ≤ n ∧ n ≤ (s.c : Int) ∧ ∀ m, Calls Try.prog 81 #[.pointer (some ⟨s.pb (pageOf a), 0, none⟩), .int .i64 ((a % 256 : Nat) : Int), .int .u8 (v.toNat : Int)] (w.drewN m) fun e w' =>
    e = .returned (.tuple #[]) ∧ Pg 109 w' (s.pb (pageOf a)) ((s.data (pageOf a)).set (a % 256) v) (s.pm (pageOf a)) (n + 1) ∧ Only (s.pb (pageOf a)) w w' := by
  obtain ⟨n, h0, h1, hp⟩ := h.page _ hk
  refine ⟨n, h0, h1, fun m => ?_⟩
  have hlt := Nat.mod_lt a (show 256 > 0 by omega)
  refine (setByte_any (w.drewN m) _ _ _ n ((a % 256 : Nat) : Int) v h0 (by omega) (hp.drewN m)).mono ?_
  rintro e w' ⟨he, hp', ho⟩
  rw [setB_nat _ _ _ hlt, cntB_nat _ _ hlt] at hp'
  exact ⟨he, hp', (show Only (s.pb (pageOf a)) w (w.drewN m) from ⟨rfl, rfl, rfl, rfl, fun _ _ => rfl⟩).trans ho⟩
theorem poke_out (w : World) (s : MS) (a : Nat) (v : UInt8) (h : MemW w s) (ha : a < 4294967296) (hk : pageOf a ∉ s.ks) : Calls Try.prog 58 #[.pointer (some ⟨s.mb, 0, none⟩), .int .u32 (a : Int), .int .u8 (v.toNat : Int)] w fun e w' => e = .returned (.bool false) ∧ ∃ n, w' = w.drewN n := by
  have H := hidden (find_out w s a h ha hk)
  clear h hk ha
  go_enter Try.func58, Try.ntmps58
  go_wp2_with (go_at_call 45; refine (Hid.out H).mono ?_; rintro e w1 ⟨rfl, n, hww⟩; rw [hww]; clear hww w1)
  go_ret
  exact ⟨rfl, _, rfl⟩
theorem poke_off (w : World) (s : MS) (a : Nat) (v : UInt8) (h : MemW w s) (ha : a < 4294967296) (hk : pageOf a ∈ s.ks) (hon : s.on (pageOf a) = false) (hcc : s.c < 4611686018427387904) : Calls Try.prog 58 #[.pointer (some ⟨s.mb, 0, none⟩), .int .u32 (a : Int), .int .u8 (v.toNat : Int)] w fun e w' => e = .returned (.bool true) ∧ MemW w' (s.poke a v s.tv) ∧ Keep (· = s.pb (pageOf a)) w w' := by
  have H := hidden (find_in w s a h ha hk)
  have H3 := fun w => hidden (within_any a ha w)
  obtain ⟨n, h0, h1, hset⟩ := poke_set w s a v h hk hcc
  have HC : Hid (∀ w1 q, w1 = w.drewN q → w1.cell? ⟨s.hb (pageOf a), 0, none⟩ = some (.pointer (some ⟨s.pb (pageOf a), 0, none⟩)) ∧ ∀ m, Hid (Calls Try.prog 81 #[.pointer (some ⟨s.pb (pageOf a), 0, none⟩), .int .i64 ((a % 256 : Nat) : Int), .int .u8 (v.toNat : Int)] (w1.drewN m) fun e w' => e = .returned (.tuple #[]) ∧ w'.cell? ⟨s.hb (pageOf a), 1, none⟩ = some (.bool false) ∧ MemW w' (s.poke a v s.tv) ∧ Keep (· = s.pb (pageOf a)) w w')) := by
    intro w1 q e
    subst e
    refine ⟨h.held0 hk, fun m => ?_⟩
    have hs := hset (q + m)
    rw [← World.drewN_drewN] at hs
    refine hs.mono ?_
    rintro e w' ⟨he, hp', ho⟩
    refine ⟨he, ?_, poke_quiet h hk hon h0 h1 hp' ho, Keep.of_only ho⟩
    rw [← hon, cell_of_row _ _ _ _ _ _ ((ho.block _ (h.pb_ne_hb hk hk).symm).trans (h.held _ hk))]
    rfl
  clear h hk ha hon hset h0 h1 hcc
  generalize a % 256 = j at H3 HC
  generalize pageOf a = k at H HC
  generalize (v.toNat : Int) = x at HC
  go_enter Try.func58, Try.ntmps58
  go_wp2_with (go_at_call 45; refine (Hid.out H).mono ?_; rintro e w1 ⟨rfl, q, hww⟩; obtain ⟨hc, hset⟩ := Hid.out HC w1 q hww; clear hww HC)
  refine wp_region_tail 7 (by kernel_rfl) (by kernel_rfl) ?_
  simp only [List.take_succ_cons, List.take_zero, List.drop_succ_cons, List.drop_zero]
  repeat (go_big_quiet_step ((go_at_call 48; exact Calls.quiet_of_same (Hid.out (H3 _)))))
  refine wpQuiet_nil ?_
  rintro _ ⟨nq, rfl⟩
  go_wp2_with (go_at_call 81; refine (Hid.out (hset _)).mono ?_; rintro e w2 ⟨rfl, hc2, hm2, hk2⟩; have HM2 := hidden hm2; have HK2 := hidden hk2; clear hm2 hk2)
  go_ret
  exact ⟨rfl, Hid.out HM2, Hid.out HK2⟩
set_option maxRecDepth 20000 in
theorem poke_on (w : World) (s : MS) (a : Nat) (v : UInt8) (h : MemW w s) (ha : a < 4294967296) (hk : pageOf a ∈ s.ks) (hon : s.on (pageOf a) = true) (hcc : s.c < 1099511627776) : Calls Try.prog 58 #[.pointer (some ⟨s.mb, 0, none⟩), .int .u32 (a : Int), .int .u8 (v.toNat : Int)] w fun e w' => e = .returned (.bool true) ∧ ∃ tv, MemW w' (s.poke a v tv) ∧ Keep (foot s) w w' ∧ (tv.ownBlock = s.tv.ownBlock ∨ ∃ b, w.heap.size ≤ b ∧ tv.ownBlock = some b) := by
  have H := hidden (find_in w s a h ha hk)
  have H3 := fun w => hidden (within_any a ha w)
  obtain ⟨n, h0, h1, hset⟩ := poke_set w s a v h hk (by omega)
  obtain ⟨ao, tn, tcap, htv⟩ := tv_slice h
  have HC : Hid (∀ w1 q, w1 = w.drewN q → w1.cell? ⟨s.hb (pageOf a), 0, none⟩ = some (.pointer (some ⟨s.pb (pageOf a), 0, none⟩)) ∧ ∀ m, Hid (Calls Try.prog 81 #[.pointer (some ⟨s.pb (pageOf a), 0, none⟩), .int .i64 ((a % 256 : Nat) : Int), .int .u8 (v.toNat : Int)] (w1.drewN m) fun e w' => e = .returned (.tuple #[]) ∧ w'.cell? ⟨s.hb (pageOf a), 1, none⟩ = some (.bool true) ∧ w'.cell? ⟨s.mb, 3, none⟩ = some (.slice ao tn tcap) ∧ w'.ownsRow 0 22 1 (.slice ao tn tcap) s.ts.length (words s.ts) ∧ s.mb < w'.heap.size ∧ (∀ w3, w'.grownBy w3 (Value.slice ao tn tcap).ownBlock → w3.cell? ⟨s.mb, 3, none⟩ = some (.slice ao tn tcap) ∧ w3.frozen? ⟨s.mb, 3, none⟩ = false) ∧ (∀ w3 tv, w'.grownBy w3 (Value.slice ao tn tcap).ownBlock → w3.ownsRow 0 22 1 tv (s.ts.length + 1) (words s.ts ++ [.int .u32 (a : Int)]) → (tv.ownBlock = (Value.slice ao tn tcap).ownBlock ∨ ∃ b, w'.heap.size ≤ b ∧ tv.ownBlock = some b) → MemW (w3.setCell ⟨s.mb, 3, none⟩ tv) (s.poke a v tv) ∧ Keep (foot s) w (w3.setCell ⟨s.mb, 3, none⟩ tv) ∧ (tv.ownBlock = s.tv.ownBlock ∨ ∃ b, w.heap.size ≤ b ∧ tv.ownBlock = some b)))) := by
    intro w1 q e
    subst e
    refine ⟨h.held0 hk, fun m => ?_⟩
    have hs := hset (q + m)
    rw [← World.drewN_drewN] at hs
    refine hs.mono ?_
    rintro e w' ⟨he, hp', ho⟩
    have hself : w'.heap[s.mb]? = some (.cells (mcells s) 85 (0, 0)) := (ho.block _ (h.pb_ne_mb hk).symm).trans h.self
    refine ⟨he, ?_, ?_, ?_, (Array.getElem?_eq_some_iff.1 hself).1, ?_, ?_⟩
    · rw [← hon, cell_of_row _ _ _ _ _ _ ((ho.block _ (h.pb_ne_hb hk hk).symm).trans (h.held _ hk))]
      rfl
    · rw [cell_of_row _ _ _ _ _ _ hself, ← htv]
      rfl
    · rw [← htv]
      exact ownsRow_same h.touched fun g hg => ho.block g (h.tv_ne_pb hg hk)
    · intro w3 hg
      rw [← htv] at hg
      have h3 : w3.heap[s.mb]? = some (.cells (mcells s) 85 (0, 0)) := (hg.block _ (Array.getElem?_eq_some_iff.1 hself).1 (fun e => h.tv_ne_mb e.symm rfl)).trans hself
      exact ⟨by rw [cell_of_row _ _ _ _ _ _ h3, ← htv]; rfl, frozen_of_row _ _ _ _ _ h3⟩
    · intro w3 tv hg hrow hloc
      rw [← htv] at hg hloc
      refine ⟨poke_loud h hk hon h0 h1 hp' ho hg hrow hloc, ?_, ?_⟩
      · refine (Keep.trans (F := foot s) ((Keep.of_only ho).mono fun b _ e => ?_) (Keep.grown hg) fun b hb e => ?_).trans (keep_setCell _ _ _ _) fun b _ e => ?_
        · exact .inr (.inr (.inr (.inl ⟨_, hk, e⟩)))
        · exact .inr (.inr (.inr (.inr e)))
        · exact .inl e
      · rcases hloc with hl | ⟨b, hb, hl⟩
        · exact .inl hl
        · exact .inr ⟨b, by rw [ho.size] at hb; exact hb, hl⟩
  have hfew : s.ts.length < 1099511627776 := Nat.lt_of_le_of_lt h.few hcc
  obtain ⟨i0, hi, hz0, hz1, hz2⟩ := info_parts info27
  clear h hk ha hon hset h0 h1 hcc htv
  generalize a % 256 = j at H3 HC
  generalize pageOf a = k at H HC
  generalize hx : (v.toNat : Int) = x at HC
  clear hx
  go_enter Try.func58, Try.ntmps58
  go_wp2_with (go_at_call 45; refine (Hid.out H).mono ?_; rintro e w1 ⟨rfl, q, hww⟩; obtain ⟨hc, hset⟩ := Hid.out HC w1 q hww; clear hww HC)
  refine wp_region_tail 7 (by kernel_rfl) (by kernel_rfl) ?_
  simp only [List.take_succ_cons, List.take_zero, List.drop_succ_cons, List.drop_zero]
  repeat (go_big_quiet_step ((go_at_call 48; exact Calls.quiet_of_same (Hid.out (H3 _)))))
  refine wpQuiet_nil ?_
  rintro _ ⟨nq, rfl⟩
  go_wp2_with (first | (go_at_call 81; refine (Hid.out (hset _)).mono ?_; rintro e w2 ⟨rfl, hc2, hc3, hrow, hlt, hcl, hend⟩; have HR := hidden hrow; have HCL := hidden hcl; have HEND := hidden hend; clear hrow hcl hend) | (at_builtin; refine wpList_append_own_at _ rfl _ _ 48 rfl 0 22 i0 (.int .u32 0) 1 4 Try.underlying48 hi hz0 hz1 hz2 rfl (by decide) _ _ _ rfl ((Hid.out HR).alloc _) ⟨w2.heap.size, 0, none⟩ 1 1 [.int .u32 (a : Int)] rfl rfl (cell_one_new _ _ _) (words_one [a]) (by unfold maxLen; omega) (by omega) (by simp) ?_; intro tv w3 hown hgrow hnil hloc; obtain ⟨ta, tm, tc, rfl⟩ := row_slice hown; have HG := hidden ((World.grownBy_alloc w2 _ _).trans hgrow); obtain ⟨hca, hcb⟩ := Hid.out HCL w3 (Hid.out HG); have HO := hidden hown; have HL := hidden hloc; clear hown hgrow hnil hloc))
  go_ret
  refine ⟨rfl, _, Hid.out HEND _ _ (Hid.out HG) (Hid.out HO) ?_⟩
  rcases Hid.out HL with hl | hl
  · exact .inl hl
  · exact .inr ⟨_, by simp, hl⟩
end Go.Proofs.Ytpknppicamefgaa
