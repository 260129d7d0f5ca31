/- A memory from call to call: what it says, which blocks are its own, what is left of others. -/
import Derived.Test.YtpknppicamefgaaQMAE
namespace Go.Proofs.Ytpknppicamefgaa
open Go.ChangeShapes Go.WideShapes Go.ChangeAt Go.RowKit
set_option linter.unusedVariables false
/-- From one world and memory to another: nothing else has turned. -/
structure Step (w : World) (s : MS) (w' : World) (s' : MS) : Prop where
  mem : MemW w' s'
  keep : Keep (foot s) w w'
  grow : ∀ b, foot s' b → foot s b ∨ w.heap.size ≤ b
/-- No block in common. -/
def Apart (s t : MS) : Prop := ∀ b, foot s b → ¬ foot t b
theorem Apart.symm {s t : MS} (h : Apart s t) : Apart t s := fun b h1 h2 => h b h2 h1
theorem Step.refl {w : World} {s : MS} (h : MemW w s) : Step w s w s := ⟨h, Keep.refl _ _, fun _ hb => .inl hb⟩
theorem Step.drew {w w' : World} {s : MS} (h : MemW w s) (e : ∃ n, w' = w.drewN n) : Step w s w' s := by
  obtain ⟨n, rfl⟩ := e
  exact ⟨h.drewN n, (Keep.refl _ _).drewN n, fun _ hb => .inl hb⟩
theorem Step.later {w w' : World} {s : MS} (h : MemW w s) (hb : Below w.heap.size w w') : Step w s w' s := ⟨h.later hb, Keep.of_below hb, fun _ hb => .inl hb⟩
theorem Step.trans {u v w : World} {r s t : MS} (h : Step u r v s) (k : Step v s w t) : Step u r w t := by
  refine ⟨k.mem, h.keep.trans k.keep fun b hb hs => ?_, fun b hb => ?_⟩
  · rcases h.grow b hs with h1 | h1
    · exact h1
    · omega
  · rcases k.grow b hb with h1 | h1
    · exact h.grow b h1
    · exact .inr (Nat.le_trans h.keep.size h1)
theorem Step.apart {w w' : World} {s s' t : MS} (h : Step w s w' s') (ht : MemW w t) (ha : Apart s t) : MemW w' t ∧ Apart s' t := by
  refine ⟨ht.keep h.keep fun b hb hs => ha b hs hb, fun b hb hbt => ?_⟩
  rcases h.grow b hb with h1 | h1
  · exact ha b h1 hbt
  · have := ht.lt hbt
    omega
theorem Step.below {w w' : World} {s s' : MS} {B : Nat} (h : Step w s w' s') (hB : B ≤ w.heap.size) (hf : ∀ b, foot s b → B ≤ b) : Below B w w' ∧ ∀ b, foot s' b → B ≤ b := by
  refine ⟨h.keep.below hB hf, fun b hb => ?_⟩
  rcases h.grow b hb with h1 | h1
  · exact hf b h1
  · omega
/-- A row of words that is none of the memory's. -/
theorem Step.row {w w' : World} {s s' : MS} {v : Value} {n base : Nat} {xs : List Value} (h : Step w s w' s') (hr : w.ownsRow base 22 1 v n xs) (hf : ∀ g, v.ownBlock = some g → ¬ foot s g) : w'.ownsRow base 22 1 v n xs ∧ ∀ g, v.ownBlock = some g → ¬ foot s' g := by
  have hlt : ∀ g, v.ownBlock = some g → g < w.heap.size := by
    intro g hg
    rcases hr.2 with ⟨e, _⟩ | ⟨g', cap, cur, e, _, hc, _⟩
    · rw [e] at hg; simp [Value.ownBlock] at hg
    · rw [e] at hg
      simp [Value.ownBlock] at hg
      subst hg
      exact (Array.getElem?_eq_some_iff.1 hc).1
  refine ⟨ownsRow_same hr fun g hg => h.keep.block g (hlt g hg) (hf g hg), fun g hg hb => ?_⟩
  rcases h.grow g hb with h1 | h1
  · exact hf g hg h1
  · have := hlt g hg
    omega
def MS.mapped (s : MS) (a : Nat) (z : Int) (b : Nat) : MS := if pageOf a ∈ s.ks then s.also (pageOf a) z else if s.ks.length < s.most then s.lay (pageOf a) (b + 1) b zeros (z % 8) false else s
def MS.mapErr (s : MS) (a : Nat) : Int := if pageOf a ∈ s.ks ∨ s.ks.length < s.most then 0 else 2
theorem map_any (w : World) (s : MS) (a : Nat) (z : Int) (h : MemW w s) (ha : a < 4294967296) : Calls Try.prog 57 #[.pointer (some ⟨s.mb, 0, none⟩), .int .u32 (a : Int), .int .i64 z] w fun e w' => e = .returned (.int .i64 (s.mapErr a)) ∧ Step w s w' (s.mapped a z w.heap.size) := by
  by_cases hk : pageOf a ∈ s.ks
  · refine (map_in w s a z h ha hk).mono ?_
    rintro e w' ⟨he, hm, hkp⟩
    unfold MS.mapErr MS.mapped
    rw [if_pos (.inl hk), if_pos hk]
    exact ⟨he, hm, hkp.mono fun b _ e => .inr (.inr (.inr (.inl ⟨_, hk, e⟩))), fun b hb => .inl hb⟩
  · by_cases hr : s.ks.length < s.most
    · refine (map_new w s a z h ha hk hr).mono ?_
      rintro e w' ⟨he, hm, hkp⟩
      unfold MS.mapErr MS.mapped
      rw [if_pos (.inr hr), if_neg hk, if_pos hr]
      refine ⟨he, hm, hkp.mono fun b _ e => e.elim .inl fun e => .inr (.inl e), fun b hb => ?_⟩
      rcases hb with hb | hb | ⟨k, hk', hb⟩ | ⟨k, hk', hb⟩ | hb
      · exact .inl (.inl hb)
      · exact .inl (.inr (.inl hb))
      · by_cases e : k = pageOf a
        · subst e
          simp only [MS.lay, upd_same] at hb
          exact .inr (by omega)
        · simp only [MS.lay, upd_other _ _ e] at hb
          exact .inl (.inr (.inr (.inl ⟨k, by simpa [MS.lay, e] using hk', hb⟩)))
      · by_cases e : k = pageOf a
        · subst e
          simp only [MS.lay, upd_same] at hb
          exact .inr (by omega)
        · simp only [MS.lay, upd_other _ _ e] at hb
          exact .inl (.inr (.inr (.inr (.inl ⟨k, by simpa [MS.lay, e] using hk', hb⟩))))
      · exact .inl (.inr (.inr (.inr (.inr hb))))
    · refine (map_full w s a z h ha hk hr).mono ?_
      rintro e w' ⟨he, hn⟩
      unfold MS.mapErr MS.mapped
      rw [if_neg (by simp [hk, hr]), if_neg hk, if_neg hr]
      exact ⟨he, Step.drew h hn⟩
def MS.watchAt (s : MS) (a : Nat) (b : Bool) : MS := if pageOf a ∈ s.ks then s.watch (pageOf a) b else s
theorem told_any (w : World) (s : MS) (h : MemW w s) : Calls Try.prog 19 #[.pointer (some ⟨s.mb, 0, none⟩)] w fun e w' => e = .returned s.tv ∧ Step w s w' s.told ∧ w'.ownsRow 0 22 1 s.tv s.ts.length (words s.ts) ∧ ∀ g, s.tv.ownBlock = some g → ¬ foot s.told g := by
  refine (touched_any w s h).mono ?_
  rintro e w' ⟨he, hm, hkp⟩
  refine ⟨he, ⟨hm, hkp.mono fun b _ e => .inl e, fun b hb => .inl ?_⟩, ownsRow_same h.touched fun g hg => hkp.block g (h.lt (.inr (.inr (.inr (.inr hg))))) (h.tv_ne_mb hg), fun g hg hb => ?_⟩
  · rcases hb with hb | hb | hb | hb | hb
    · exact .inl hb
    · exact .inr (.inl hb)
    · exact .inr (.inr (.inl hb))
    · exact .inr (.inr (.inr (.inl hb)))
    · simp [MS.told, Value.ownBlock] at hb
  · rcases hb with hb | hb | ⟨k, hk, hb⟩ | ⟨k, hk, hb⟩ | hb
    · exact h.tv_ne_mb hg hb
    · exact h.tv_ne_bm hg hb
    · exact h.tv_ne_hb hg hk hb
    · exact h.tv_ne_pb hg hk hb
    · simp [MS.told, Value.ownBlock] at hb
def MS.pokeAt (s : MS) (a : Nat) (v : UInt8) (tv : Value) : MS := if pageOf a ∈ s.ks then s.poke a v tv else s
theorem poke_any (w : World) (s : MS) (a : Nat) (v : UInt8) (h : MemW w s) (ha : a < 4294967296) (hc : s.c < 1099511627776) : Calls Try.prog 58 #[.pointer (some ⟨s.mb, 0, none⟩), .int .u32 (a : Int), .int .u8 (v.toNat : Int)] w fun e w' => e = .returned (.bool (decide (pageOf a ∈ s.ks))) ∧ ∃ tv, Step w s w' (s.pokeAt a v tv) := by
  unfold MS.pokeAt
  by_cases hk : pageOf a ∈ s.ks
  · rw [decide_eq_true hk]
    simp only [if_pos hk]
    cases hon : s.on (pageOf a) with
    | false =>
      refine (poke_off w s a v h ha hk hon (by omega)).mono ?_
      rintro e w' ⟨he, hm, hkp⟩
      exact ⟨he, _, hm, hkp.mono fun b _ e => .inr (.inr (.inr (.inl ⟨_, hk, e⟩))), fun b hb => .inl hb⟩
    | true =>
      refine (poke_on w s a v h ha hk hon hc).mono ?_
      rintro e w' ⟨he, tv, hm, hkp, hl⟩
      refine ⟨he, tv, hm, hkp, fun b hb => ?_⟩
      rcases hb with hb | hb | hb | hb | hb
      · exact .inl (.inl hb)
      · exact .inl (.inr (.inl hb))
      · exact .inl (.inr (.inr (.inl hb)))
      · exact .inl (.inr (.inr (.inr (.inl hb))))
      · have hb : tv.ownBlock = some b := hb
        rcases hl with hl | ⟨g, hg, hl⟩
        · exact .inl (.inr (.inr (.inr (.inr (by rw [← hl]; exact hb)))))
        · rw [hl] at hb
          obtain rfl : g = b := by simpa using hb
          exact .inr hg
  · rw [decide_eq_false hk]
    simp only [if_neg hk]
    refine (poke_out w s a v h ha hk).mono ?_
    rintro e w' ⟨he, hn⟩
    exact ⟨he, .slice none 0 0, Step.drew h hn⟩
theorem pokeAt_mb (s : MS) (a : Nat) (v : UInt8) (tv : Value) : (s.pokeAt a v tv).mb = s.mb := by unfold MS.pokeAt; split <;> rfl
theorem pokeAt_ks (s : MS) (a : Nat) (v : UInt8) (tv : Value) : (s.pokeAt a v tv).ks = s.ks := by unfold MS.pokeAt; split <;> rfl
theorem pokeAt_on (s : MS) (a : Nat) (v : UInt8) (tv : Value) : (s.pokeAt a v tv).on = s.on := by unfold MS.pokeAt; split <;> rfl
theorem pokeAt_pm (s : MS) (a : Nat) (v : UInt8) (tv : Value) : (s.pokeAt a v tv).pm = s.pm := by unfold MS.pokeAt; split <;> rfl
theorem pokeAt_most (s : MS) (a : Nat) (v : UInt8) (tv : Value) : (s.pokeAt a v tv).most = s.most := by unfold MS.pokeAt; split <;> rfl
theorem pokeAt_c (s : MS) (a : Nat) (v : UInt8) (tv : Value) : (s.pokeAt a v tv).c ≤ s.c + 1 := by unfold MS.pokeAt; split <;> simp [MS.poke]
theorem pokeAt_ts (s : MS) (a : Nat) (v : UInt8) (tv : Value) : (s.pokeAt a v tv).ts = if s.watched a then s.ts ++ [a] else s.ts := by
  unfold MS.pokeAt MS.watched
  by_cases hk : pageOf a ∈ s.ks
  · rw [if_pos hk, decide_eq_true hk]
    simp [MS.poke]
  · rw [if_neg hk, decide_eq_false hk]
    simp
theorem mapped_mb (s : MS) (a : Nat) (z : Int) (b : Nat) : (s.mapped a z b).mb = s.mb := by unfold MS.mapped; split; rfl; split <;> rfl
theorem mapped_most (s : MS) (a : Nat) (z : Int) (b : Nat) : (s.mapped a z b).most = s.most := by unfold MS.mapped; split; rfl; split <;> rfl
theorem mapped_c (s : MS) (a : Nat) (z : Int) (b : Nat) : (s.mapped a z b).c = s.c := by unfold MS.mapped; split; rfl; split <;> rfl
theorem mapped_ts (s : MS) (a : Nat) (z : Int) (b : Nat) : (s.mapped a z b).ts = s.ts := by unfold MS.mapped; split; rfl; split <;> rfl
theorem mapped_tv (s : MS) (a : Nat) (z : Int) (b : Nat) : (s.mapped a z b).tv = s.tv := by unfold MS.mapped; split; rfl; split <;> rfl
theorem watchAt_mb (s : MS) (a : Nat) (b : Bool) : (s.watchAt a b).mb = s.mb := by unfold MS.watchAt; split <;> rfl
end Go.Proofs.Ytpknppicamefgaa
namespace Go.Proofs.Ytpknppicamefgaa
open Go.ChangeShapes Go.WideShapes Go.ChangeAt Go.RowKit
set_option linter.unusedVariables false
theorem fresh_foot {mb bm most b : Nat} (h : foot (fresh mb bm most) b) : b = mb ∨ b = bm := by
  rcases h with h | h | ⟨k, hk, h⟩ | ⟨k, hk, h⟩ | h
  · exact .inl h
  · exact .inr h
  · simp [fresh] at hk
  · simp [fresh] at hk
  · simp [fresh, Value.ownBlock] at h
theorem newMem_step (z : Int) (w : World) : Calls Try.prog 26 #[.int .i64 z] w fun e w' => ∃ mb bm, e = .returned (.pointer (some ⟨mb, 0, none⟩)) ∧ MemW w' (fresh mb bm (cutMost z)) ∧ Below w.heap.size w w' ∧ ∀ b, foot (fresh mb bm (cutMost z)) b → w.heap.size ≤ b := by
  refine (newMem_any z w).mono ?_
  rintro e w' ⟨he, hm, hb⟩
  refine ⟨_, _, he, hm, hb, fun b hf => ?_⟩
  rcases fresh_foot hf with h | h <;> omega
/-- Words in memory. -/
def Wds (w : World) (v : Value) (l : List Nat) : Prop := ∃ ao cap, v = .slice ao l.length cap ∧ (l = [] ∨ ∃ b off, ao = some ⟨b, off, none⟩ ∧ b < w.heap.size ∧ ∀ j, j < l.length → w.cell? ⟨b, off + j, none⟩ = some (.int .u32 ((l.getD j 0 : Nat) : Int)))
theorem wds_of_row {w : World} {base n : Nat} {v : Value} {l : List Nat} (h : w.ownsRow base 22 1 v n (words l)) : Wds w v l := by
  have hn : n = l.length := by have := h.1; rw [words_len] at this; omega
  subst hn
  rcases h.2 with ⟨e, h0⟩ | ⟨g, cap, cur, e, _, hg, hnc, hcm, _, htake⟩
  · exact ⟨none, 0, by rw [e, h0], .inl (List.eq_nil_of_length_eq_zero h0)⟩
  · refine ⟨_, cap, e, .inr ⟨g, 0, rfl, (Array.getElem?_eq_some_iff.1 hg).1, fun j hj => ?_⟩⟩
    subst e
    have hc := h.cellAt j (by omega)
    rw [words_get l j hj] at hc
    rw [Nat.zero_add]
    exact hc
theorem Wds.later {w w' : World} {v : Value} {l : List Nat} (h : Wds w v l) (hb : Below w.heap.size w w') : Wds w' v l := by
  obtain ⟨ao, cap, e, h⟩ := h
  refine ⟨ao, cap, e, ?_⟩
  rcases h with h | ⟨b, off, e2, hlt, hc⟩
  · exact .inl h
  · exact .inr ⟨b, off, e2, Nat.lt_of_lt_of_le hlt hb.size, fun j hj => (hb.cell (p := ⟨b, off + j, none⟩) hlt).trans (hc j hj)⟩
theorem sameWords_len (w : World) (v u : Value) (l m : List Nat) (hl : Wds w v l) (hm : Wds w u m) (hne : l.length ≠ m.length) : Calls Try.prog 34 #[v, u] w fun e w' => e = .returned (.bool false) ∧ w' = w := by
  obtain ⟨ao, cap, rfl, _⟩ := hl
  obtain ⟨bo, cap2, rfl, _⟩ := hm
  have h : ¬ (l.length : Int) = (m.length : Int) := by omega
  generalize (l.length) = x at h
  generalize (m.length) = y at h
  clear hne
  go_enter Try.func34, Try.ntmps34
  go_wp2
  go_ret
  exact ⟨rfl, rfl⟩
theorem sameWords_any (w : World) (v u : Value) (l : List Nat) (hl : Wds w v l) (hm : Wds w u l) (hlen : l.length ≤ 4611686018427387904) : Calls Try.prog 34 #[v, u] w fun e w' => e = .returned (.bool true) ∧ ∃ n, w' = w.drewN n := by
  obtain ⟨ao, cap, rfl, h1⟩ := hl
  obtain ⟨bo, cap2, rfl, h2⟩ := hm
  have H1 := hidden h1
  have H2 := hidden h2
  clear h1 h2
  go_enter Try.func34, Try.ntmps34
  go_wp2
  go_loopw [5] (fun i wr => ∃ (k n : Nat), k ≤ l.length ∧ i = .int .i64 (k : Int) ∧ wr = w.drewN n) (fun i _ => l.length - (intOf i).toNat)
  case atStart => exact ⟨0, 0, by omega, rfl, rfl⟩
  case round =>
    obtain ⟨k, n, hk, rfl, rfl⟩ := hrel
    by_cases hkn : k < l.length
    · obtain ⟨b, off, rfl, hc⟩ : ∃ b off, ao = some ⟨b, off, none⟩ ∧ w.cell? ⟨b, off + k, none⟩ = some (.int .u32 ((l.getD k 0 : Nat) : Int)) := by
        rcases Hid.out H1 with h | ⟨b, off, e, _, h⟩
        · rw [h] at hkn; simp at hkn
        · exact ⟨b, off, e, h k hkn⟩
      obtain ⟨b2, off2, rfl, hc2⟩ : ∃ b off, bo = some ⟨b, off, none⟩ ∧ w.cell? ⟨b, off + k, none⟩ = some (.int .u32 ((l.getD k 0 : Nat) : Int)) := by
        rcases Hid.out H2 with h | ⟨b, off, e, _, h⟩
        · rw [h] at hkn; simp at hkn
        · exact ⟨b, off, e, h k hkn⟩
      generalize l.getD k 0 = x at hc hc2
      clear H1 H2
      go_wp2
      go_quiet (fail)
      go_wp2
      go_roundw
      case rel => exact ⟨k + 1, _, by omega, by simp, rfl⟩
      case measure => simp [intOf]; omega
    · have hkk : ¬ (k : Int) < (l.length : Int) := by omega
      go_wp2
      go_ret
      exact ⟨rfl, _, rfl⟩
end Go.Proofs.Ytpknppicamefgaa
namespace Go.Proofs.Ytpknppicamefgaa
open Go.ChangeShapes Go.WideShapes Go.ChangeAt Go.RowKit
set_option linter.unusedVariables false
/-- A memory of the call's own. -/
structure Own (w0 w : World) (s : MS) : Prop where
  mem : MemW w s
  below : Below w0.heap.size w0 w
  foot : ∀ b, foot s b → w0.heap.size ≤ b
theorem Own.step {w0 w w' : World} {s s' : MS} (h : Own w0 w s) (k : Step w s w' s') : Own w0 w' s' := by
  have := k.below h.below.size h.foot
  exact ⟨k.mem, h.below.trans this.1, this.2⟩
theorem one_word (z : Int) : ∀ u ∈ [Value.int .u32 z], u.oneCell' = true := by
  intro u hu
  simp at hu
  subst hu
  rfl
theorem row_base {w : World} {base n : Nat} {v : Value} {xs : List Value} (h : w.ownsRow base 22 1 v n xs) : ∀ g, v.ownBlock = some g → base ≤ g := by
  intro g hg
  rcases h.2 with ⟨e, _⟩ | ⟨g', cap, cur, e, hb, _⟩
  · rw [e] at hg; simp [Value.ownBlock] at hg
  · rw [e] at hg
    simp [Value.ownBlock] at hg
    omega
/-- A word put behind a row of the call's own. -/
theorem wpList_pushW {wa : World} {ops : Array Oper} {rest : List Oper} {o : Oper} {a : Act} {Q : Exit → Act → World → Prop} (hgd : o.guard = none) (s x : Operand) (ho : o.op = .call { callee := .builtin .append, args := #[s, x], argTypes := #[48, 48] }) (base : Nat) (v : Value) (ts : List Nat) (z : Int) (w4 : World) (hwa : wa = w4.alloc (.cells #[.int .u32 z] 22)) (hs : a.eval s = v) (hx : a.eval x = .slice (some ⟨w4.heap.size, 0, none⟩) 1 1) (hrow : w4.ownsRow base 22 1 v ts.length (words ts)) (hlen : ts.length < 1099511627776) (hbase : base ≤ w4.heap.size)
    (h : ∀ v' w', w'.ownsRow base 22 1 v' (ts.length + 1) (words ts ++ [.int .u32 z]) → w4.grownBy w' v.ownBlock → (v'.ownBlock = v.ownBlock ∨ ∃ q, w4.heap.size ≤ q ∧ v'.ownBlock = some q) → wpList Try.prog ops Q rest (a.put o.dst v') w') : wpList Try.prog ops Q (o :: rest) a wa := by
  subst hwa
  obtain ⟨i0, hi, hz0, hz1, hz2⟩ := info_parts info27
  refine wpList_append_own_at _ hgd s x 48 ho base 22 i0 (.int .u32 0) 1 4 Try.underlying48 hi hz0 hz1 hz2 rfl (by decide) v ts.length (words ts) hs (hrow.alloc _) ⟨w4.heap.size, 0, none⟩ 1 1 [.int .u32 z] hx rfl (cell_one_new _ _ _) (one_word z) (by unfold maxLen; omega) (by omega) (by simp; omega) ?_
  intro v' w' hown hgr _ hloc
  refine h v' w' hown ((World.grownBy_alloc w4 _ _).trans hgr) ?_
  rcases hloc with hl | hl
  · exact .inl hl
  · exact .inr ⟨_, by simp, hl⟩
/-- A row of the call's own that has grown. -/
theorem row_grown {w w4 w5 : World} {s : MS} {v v5 : Value} (h : Own w w4 s) (ha : ∀ g, v.ownBlock = some g → ¬ foot s g) (hg : w4.grownBy w5 v.ownBlock) (hl : v5.ownBlock = v.ownBlock ∨ ∃ q, w4.heap.size ≤ q ∧ v5.ownBlock = some q) (hb : ∀ g, v.ownBlock = some g → w.heap.size ≤ g) : Own w w5 s ∧ ∀ g, v5.ownBlock = some g → ¬ foot s g := by
  refine ⟨⟨h.mem.keep (Keep.grown hg) (fun b hb' e => ha b e hb'), h.below.trans ((Keep.grown hg).below h.below.size hb), h.foot⟩, fun g hg' hf => ?_⟩
  rcases hl with hl | ⟨q, hq, hl⟩
  · rw [hl] at hg'
    exact ha g hg' hf
  · rw [hl] at hg'
    obtain rfl : q = g := by simpa using hg'
    have := h.mem.lt hf
    omega
end Go.Proofs.Ytpknppicamefgaa
