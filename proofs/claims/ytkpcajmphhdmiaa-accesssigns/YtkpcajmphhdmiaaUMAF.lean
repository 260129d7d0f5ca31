/- A memory from call to call: what it says, which blocks are its own, what is left of others. -/
import Derived.Test.YtkpcajmphhdmiaaUMAE
import Derived.Deep.LoopGhost
import Derived.Laws.Strings
namespace Go.Proofs.Ytkpcajmphhdmiaa
open Go.ChangeShapes Go.WideShapes Go.ChangeAt Go.RowKit
set_option linter.unusedVariables false
/-- From one world and memory to another: nothing else has turned. -/
structure Step (w : World) (s : MS) (w' : World) (s' : MS) : Prop where
  mem : MemW w' s'
  keep : Keep (foot s) w w'
  grow : ∀ b, foot s' b → foot s b ∨ w.heap.size ≤ b
/-- No block in common. -/
def Apart (s t : MS) : Prop := ∀ b, foot s b → ¬ foot t b
theorem Apart.symm {s t : MS} (h : Apart s t) : Apart t s := fun b h1 h2 => h b h2 h1
theorem Step.refl {w : World} {s : MS} (h : MemW w s) : Step w s w s := ⟨h, Keep.refl _ _, fun _ hb => .inl hb⟩
theorem Step.drew {w w' : World} {s : MS} (h : MemW w s) (e : ∃ n, w' = w.drewN n) : Step w s w' s := by
  obtain ⟨n, rfl⟩ := e
  exact ⟨h.drewN n, (Keep.refl _ _).drewN n, fun _ hb => .inl hb⟩
theorem Step.later {w w' : World} {s : MS} (h : MemW w s) (hb : Below w.heap.size w w') : Step w s w' s := ⟨h.later hb, Keep.of_below hb, fun _ hb => .inl hb⟩
theorem Step.trans {u v w : World} {r s t : MS} (h : Step u r v s) (k : Step v s w t) : Step u r w t := by
  refine ⟨k.mem, h.keep.trans k.keep fun b hb hs => ?_, fun b hb => ?_⟩
  · rcases h.grow b hs with h1 | h1
    · exact h1
    · omega
  · rcases k.grow b hb with h1 | h1
    · exact h.grow b h1
    · exact .inr (Nat.le_trans h.keep.size h1)
theorem Step.apart {w w' : World} {s s' t : MS} (h : Step w s w' s') (ht : MemW w t) (ha : Apart s t) : MemW w' t ∧ Apart s' t := by
  refine ⟨ht.keep h.keep fun b hb hs => ha b hs hb, fun b hb hbt => ?_⟩
  rcases h.grow b hb with h1 | h1
  · exact ha b h1 hbt
  · have := ht.lt hbt
    omega
theorem Step.below {w w' : World} {s s' : MS} {B : Nat} (h : Step w s w' s') (hB : B ≤ w.heap.size) (hf : ∀ b, foot s b → B ≤ b) : Below B w w' ∧ ∀ b, foot s' b → B ≤ b := by
  refine ⟨h.keep.below hB hf, fun b hb => ?_⟩
  rcases h.grow b hb with h1 | h1
  · exact hf b h1
  · omega
/-- A row of words that is none of the memory's. -/
theorem Step.row {w w' : World} {s s' : MS} {v : Value} {n base : Nat} {xs : List Value} (h : Step w s w' s') (hr : w.ownsRow base 23 1 v n xs) (hf : ∀ g, v.ownBlock = some g → ¬ foot s g) : w'.ownsRow base 23 1 v n xs ∧ ∀ g, v.ownBlock = some g → ¬ foot s' g := by
  have hlt : ∀ g, v.ownBlock = some g → g < w.heap.size := by
    intro g hg
    rcases hr.2 with ⟨e, _⟩ | ⟨g', cap, cur, e, _, hc, _⟩
    · rw [e] at hg; simp [Value.ownBlock] at hg
    · rw [e] at hg
      simp [Value.ownBlock] at hg
      subst hg
      exact (Array.getElem?_eq_some_iff.1 hc).1
  refine ⟨ownsRow_same hr fun g hg => h.keep.block g (hlt g hg) (hf g hg), fun g hg hb => ?_⟩
  rcases h.grow g hb with h1 | h1
  · exact hf g hg h1
  · have := hlt g hg
    omega
def MS.mapped (s : MS) (a : Nat) (z : Int) (b : Nat) : MS := if pageOf a ∈ s.ks then s.also (pageOf a) z else if s.ks.length < s.most then s.lay (pageOf a) (b + 1) b zeros (z % 8) false else s
def MS.mapErr (s : MS) (a : Nat) : Int := if pageOf a ∈ s.ks ∨ s.ks.length < s.most then 0 else 2
theorem map_any (w : World) (s : MS) (a : Nat) (z : Int) (h : MemW w s) (ha : a < 4294967296) : Calls Try.prog 28 #[.pointer (some ⟨s.mb, 0, none⟩), .int .u32 (a : Int), .int .i64 z] w fun e w' => e = .returned (.int .i64 (s.mapErr a)) ∧ Step w s w' (s.mapped a z w.heap.size) := by
  by_cases hk : pageOf a ∈ s.ks
  · refine (map_in w s a z h ha hk).mono ?_
    rintro e w' ⟨he, hm, hkp⟩
    unfold MS.mapErr MS.mapped
    rw [if_pos (.inl hk), if_pos hk]
    exact ⟨he, hm, hkp.mono fun b _ e => .inr (.inr (.inr (.inl ⟨_, hk, e⟩))), fun b hb => .inl hb⟩
  · by_cases hr : s.ks.length < s.most
    · refine (map_new w s a z h ha hk hr).mono ?_
      rintro e w' ⟨he, hm, hkp⟩
      unfold MS.mapErr MS.mapped
      rw [if_pos (.inr hr), if_neg hk, if_pos hr]
      refine ⟨he, hm, hkp.mono fun b _ e => e.elim .inl fun e => .inr (.inl e), fun b hb => ?_⟩
      rcases hb with hb | hb | ⟨k, hk', hb⟩ | ⟨k, hk', hb⟩ | hb
      · exact .inl (.inl hb)
      · exact .inl (.inr (.inl hb))
      · by_cases e : k = pageOf a
        · subst e
          simp only [MS.lay, upd_same] at hb
          exact .inr (by omega)
        · simp only [MS.lay, upd_other _ _ e] at hb
          exact .inl (.inr (.inr (.inl ⟨k, by simpa [MS.lay, e] using hk', hb⟩)))
      · by_cases e : k = pageOf a
        · subst e
          simp only [MS.lay, upd_same] at hb
          exact .inr (by omega)
        · simp only [MS.lay, upd_other _ _ e] at hb
          exact .inl (.inr (.inr (.inr (.inl ⟨k, by simpa [MS.lay, e] using hk', hb⟩))))
      · exact .inl (.inr (.inr (.inr (.inr hb))))
    · refine (map_full w s a z h ha hk hr).mono ?_
      rintro e w' ⟨he, hn⟩
      unfold MS.mapErr MS.mapped
      rw [if_neg (by simp [hk, hr]), if_neg hk, if_neg hr]
      exact ⟨he, Step.drew h hn⟩
def MS.watchAt (s : MS) (a : Nat) (b : Bool) : MS := if pageOf a ∈ s.ks then s.watch (pageOf a) b else s
theorem watch_any (w : World) (s : MS) (a : Nat) (b : Bool) (h : MemW w s) (ha : a < 4294967296) : Calls Try.prog 30 #[.pointer (some ⟨s.mb, 0, none⟩), .int .u32 (a : Int), .bool b] w fun e w' => e = .returned (.tuple #[]) ∧ Step w s w' (s.watchAt a b) := by
  unfold MS.watchAt
  by_cases hk : pageOf a ∈ s.ks
  · rw [if_pos hk]
    refine (watch_in w s a b h ha hk).mono ?_
    rintro e w' ⟨he, hm, hkp⟩
    exact ⟨he, hm, hkp.mono fun b _ e => .inr (.inr (.inl ⟨_, hk, e⟩)), fun b hb => .inl hb⟩
  · rw [if_neg hk]
    refine (watch_out w s a b h ha hk).mono ?_
    rintro e w' ⟨he, hn⟩
    exact ⟨he, Step.drew h hn⟩
theorem told_any (w : World) (s : MS) (h : MemW w s) : Calls Try.prog 21 #[.pointer (some ⟨s.mb, 0, none⟩)] w fun e w' => e = .returned s.tv ∧ Step w s w' s.told ∧ w'.ownsRow 0 23 1 s.tv s.ts.length (words s.ts) ∧ ∀ g, s.tv.ownBlock = some g → ¬ foot s.told g := by
  refine (touched_any w s h).mono ?_
  rintro e w' ⟨he, hm, hkp⟩
  refine ⟨he, ⟨hm, hkp.mono fun b _ e => .inl e, fun b hb => .inl ?_⟩, ownsRow_same h.touched fun g hg => hkp.block g (h.lt (.inr (.inr (.inr (.inr hg))))) (h.tv_ne_mb hg), fun g hg hb => ?_⟩
  · rcases hb with hb | hb | hb | hb | hb
    · exact .inl hb
    · exact .inr (.inl hb)
    · exact .inr (.inr (.inl hb))
    · exact .inr (.inr (.inr (.inl hb)))
    · simp [MS.told, Value.ownBlock] at hb
  · rcases hb with hb | hb | ⟨k, hk, hb⟩ | ⟨k, hk, hb⟩ | hb
    · exact h.tv_ne_mb hg hb
    · exact h.tv_ne_bm hg hb
    · exact h.tv_ne_hb hg hk hb
    · exact h.tv_ne_pb hg hk hb
    · simp [MS.told, Value.ownBlock] at hb
def MS.pokeAt (s : MS) (a : Nat) (v : UInt8) (tv : Value) : MS := if pageOf a ∈ s.ks then s.poke a v tv else s
theorem poke_any (w : World) (s : MS) (a : Nat) (v : UInt8) (h : MemW w s) (ha : a < 4294967296) (hc : s.c < 1099511627776) : Calls Try.prog 29 #[.pointer (some ⟨s.mb, 0, none⟩), .int .u32 (a : Int), .int .u8 (v.toNat : Int)] w fun e w' => e = .returned (.bool (decide (pageOf a ∈ s.ks))) ∧ ∃ tv, Step w s w' (s.pokeAt a v tv) := by
  unfold MS.pokeAt
  by_cases hk : pageOf a ∈ s.ks
  · rw [decide_eq_true hk]
    simp only [if_pos hk]
    cases hon : s.on (pageOf a) with
    | false =>
      refine (poke_off w s a v h ha hk hon (by omega)).mono ?_
      rintro e w' ⟨he, hm, hkp⟩
      exact ⟨he, _, hm, hkp.mono fun b _ e => .inr (.inr (.inr (.inl ⟨_, hk, e⟩))), fun b hb => .inl hb⟩
    | true =>
      refine (poke_on w s a v h ha hk hon hc).mono ?_
      rintro e w' ⟨he, tv, hm, hkp, hl⟩
      refine ⟨he, tv, hm, hkp, fun b hb => ?_⟩
      rcases hb with hb | hb | hb | hb | hb
      · exact .inl (.inl hb)
      · exact .inl (.inr (.inl hb))
      · exact .inl (.inr (.inr (.inl hb)))
      · exact .inl (.inr (.inr (.inr (.inl hb))))
      · have hb : tv.ownBlock = some b := hb
        rcases hl with hl | ⟨g, hg, hl⟩
        · exact .inl (.inr (.inr (.inr (.inr (by rw [← hl]; exact hb)))))
        · rw [hl] at hb
          obtain rfl : g = b := by simpa using hb
          exact .inr hg
  · rw [decide_eq_false hk]
    simp only [if_neg hk]
    refine (poke_out w s a v h ha hk).mono ?_
    rintro e w' ⟨he, hn⟩
    exact ⟨he, .slice none 0 0, Step.drew h hn⟩
theorem pokeAt_mb (s : MS) (a : Nat) (v : UInt8) (tv : Value) : (s.pokeAt a v tv).mb = s.mb := by unfold MS.pokeAt; split <;> rfl
theorem pokeAt_ks (s : MS) (a : Nat) (v : UInt8) (tv : Value) : (s.pokeAt a v tv).ks = s.ks := by unfold MS.pokeAt; split <;> rfl
theorem pokeAt_on (s : MS) (a : Nat) (v : UInt8) (tv : Value) : (s.pokeAt a v tv).on = s.on := by unfold MS.pokeAt; split <;> rfl
theorem pokeAt_pm (s : MS) (a : Nat) (v : UInt8) (tv : Value) : (s.pokeAt a v tv).pm = s.pm := by unfold MS.pokeAt; split <;> rfl
theorem pokeAt_most (s : MS) (a : Nat) (v : UInt8) (tv : Value) : (s.pokeAt a v tv).most = s.most := by unfold MS.pokeAt; split <;> rfl
theorem pokeAt_c (s : MS) (a : Nat) (v : UInt8) (tv : Value) : (s.pokeAt a v tv).c ≤ s.c + 1 := by unfold MS.pokeAt; split <;> simp [MS.poke]
theorem pokeAt_ts (s : MS) (a : Nat) (v : UInt8) (tv : Value) : (s.pokeAt a v tv).ts = if s.watched a then s.ts ++ [a] else s.ts := by
  unfold MS.pokeAt MS.watched
  by_cases hk : pageOf a ∈ s.ks
  · rw [if_pos hk, decide_eq_true hk]
    simp [MS.poke]
  · rw [if_neg hk, decide_eq_false hk]
    simp
theorem mapped_mb (s : MS) (a : Nat) (z : Int) (b : Nat) : (s.mapped a z b).mb = s.mb := by unfold MS.mapped; split; rfl; split <;> rfl
theorem mapped_most (s : MS) (a : Nat) (z : Int) (b : Nat) : (s.mapped a z b).most = s.most := by unfold MS.mapped; split; rfl; split <;> rfl
theorem mapped_c (s : MS) (a : Nat) (z : Int) (b : Nat) : (s.mapped a z b).c = s.c := by unfold MS.mapped; split; rfl; split <;> rfl
theorem mapped_ts (s : MS) (a : Nat) (z : Int) (b : Nat) : (s.mapped a z b).ts = s.ts := by unfold MS.mapped; split; rfl; split <;> rfl
theorem mapped_tv (s : MS) (a : Nat) (z : Int) (b : Nat) : (s.mapped a z b).tv = s.tv := by unfold MS.mapped; split; rfl; split <;> rfl
theorem watchAt_mb (s : MS) (a : Nat) (b : Bool) : (s.watchAt a b).mb = s.mb := by unfold MS.watchAt; split <;> rfl
end Go.Proofs.Ytkpcajmphhdmiaa
namespace Go.Proofs.Ytkpcajmphhdmiaa
open Go.ChangeShapes Go.WideShapes Go.ChangeAt Go.RowKit
set_option linter.unusedVariables false
theorem fresh_foot {mb bm most b : Nat} (h : foot (fresh mb bm most) b) : b = mb ∨ b = bm := by
  rcases h with h | h | ⟨k, hk, h⟩ | ⟨k, hk, h⟩ | h
  · exact .inl h
  · exact .inr h
  · simp [fresh] at hk
  · simp [fresh] at hk
  · simp [fresh, Value.ownBlock] at h
theorem newMem_step (z : Int) (w : World) : Calls Try.prog 27 #[.int .i64 z] w fun e w' => ∃ mb bm, e = .returned (.pointer (some ⟨mb, 0, none⟩)) ∧ MemW w' (fresh mb bm (cutMost z)) ∧ Below w.heap.size w w' ∧ ∀ b, foot (fresh mb bm (cutMost z)) b → w.heap.size ≤ b := by
  refine (newMem_any z w).mono ?_
  rintro e w' ⟨he, hm, hb⟩
  refine ⟨_, _, he, hm, hb, fun b hf => ?_⟩
  rcases fresh_foot hf with h | h <;> omega
/-- Words in memory. -/
def Wds (w : World) (v : Value) (l : List Nat) : Prop := ∃ ao cap, v = .slice ao l.length cap ∧ (l = [] ∨ ∃ b off, ao = some ⟨b, off, none⟩ ∧ b < w.heap.size ∧ ∀ j, j < l.length → w.cell? ⟨b, off + j, none⟩ = some (.int .u32 ((l.getD j 0 : Nat) : Int)))
theorem wds_of_row {w : World} {base n : Nat} {v : Value} {l : List Nat} (h : w.ownsRow base 23 1 v n (words l)) : Wds w v l := by
  have hn : n = l.length := by have := h.1; rw [words_len] at this; omega
  subst hn
  rcases h.2 with ⟨e, h0⟩ | ⟨g, cap, cur, e, _, hg, hnc, hcm, _, htake⟩
  · exact ⟨none, 0, by rw [e, h0], .inl (List.eq_nil_of_length_eq_zero h0)⟩
  · refine ⟨_, cap, e, .inr ⟨g, 0, rfl, (Array.getElem?_eq_some_iff.1 hg).1, fun j hj => ?_⟩⟩
    subst e
    have hc := h.cellAt j (by omega)
    rw [words_get l j hj] at hc
    rw [Nat.zero_add]
    exact hc
theorem Wds.later {w w' : World} {v : Value} {l : List Nat} (h : Wds w v l) (hb : Below w.heap.size w w') : Wds w' v l := by
  obtain ⟨ao, cap, e, h⟩ := h
  refine ⟨ao, cap, e, ?_⟩
  rcases h with h | ⟨b, off, e2, hlt, hc⟩
  · exact .inl h
  · exact .inr ⟨b, off, e2, Nat.lt_of_lt_of_le hlt hb.size, fun j hj => (hb.cell (p := ⟨b, off + j, none⟩) hlt).trans (hc j hj)⟩
theorem sameWords_len (w : World) (v u : Value) (l m : List Nat) (hl : Wds w v l) (hm : Wds w u m) (hne : l.length ≠ m.length) : Calls Try.prog 20 #[v, u] w fun e w' => e = .returned (.bool false) ∧ w' = w := by
  obtain ⟨ao, cap, rfl, _⟩ := hl
  obtain ⟨bo, cap2, rfl, _⟩ := hm
  have h : ¬ (l.length : Int) = (m.length : Int) := by omega
  generalize (l.length) = x at h
  generalize (m.length) = y at h
  clear hne
  go_enter Try.func20, Try.ntmps20
  go_wp2
  go_ret
  exact ⟨rfl, rfl⟩
theorem sameWords_any (w : World) (v u : Value) (l : List Nat) (hl : Wds w v l) (hm : Wds w u l) (hlen : l.length ≤ 4611686018427387904) : Calls Try.prog 20 #[v, u] w fun e w' => e = .returned (.bool true) ∧ ∃ n, w' = w.drewN n := by
  obtain ⟨ao, cap, rfl, h1⟩ := hl
  obtain ⟨bo, cap2, rfl, h2⟩ := hm
  have H1 := hidden h1
  have H2 := hidden h2
  clear h1 h2
  go_enter Try.func20, Try.ntmps20
  go_wp2
  go_loopw [5] (fun i wr => ∃ (k n : Nat), k ≤ l.length ∧ i = .int .i64 (k : Int) ∧ wr = w.drewN n) (fun i _ => l.length - (intOf i).toNat)
  case atStart => exact ⟨0, 0, by omega, rfl, rfl⟩
  case round =>
    obtain ⟨k, n, hk, rfl, rfl⟩ := hrel
    by_cases hkn : k < l.length
    · obtain ⟨b, off, rfl, hc⟩ : ∃ b off, ao = some ⟨b, off, none⟩ ∧ w.cell? ⟨b, off + k, none⟩ = some (.int .u32 ((l.getD k 0 : Nat) : Int)) := by
        rcases Hid.out H1 with h | ⟨b, off, e, _, h⟩
        · rw [h] at hkn; simp at hkn
        · exact ⟨b, off, e, h k hkn⟩
      obtain ⟨b2, off2, rfl, hc2⟩ : ∃ b off, bo = some ⟨b, off, none⟩ ∧ w.cell? ⟨b, off + k, none⟩ = some (.int .u32 ((l.getD k 0 : Nat) : Int)) := by
        rcases Hid.out H2 with h | ⟨b, off, e, _, h⟩
        · rw [h] at hkn; simp at hkn
        · exact ⟨b, off, e, h k hkn⟩
      generalize l.getD k 0 = x at hc hc2
      clear H1 H2
      go_wp2
      go_quiet (fail)
      go_wp2
      go_roundw
      case rel => exact ⟨k + 1, _, by omega, by simp, rfl⟩
      case measure => simp [intOf]; omega
    · have hkk : ¬ (k : Int) < (l.length : Int) := by omega
      go_wp2
      go_ret
      exact ⟨rfl, _, rfl⟩
end Go.Proofs.Ytkpcajmphhdmiaa
namespace Go.Proofs.Ytkpcajmphhdmiaa
open Go.ChangeShapes Go.WideShapes Go.ChangeAt Go.RowKit
set_option linter.unusedVariables false
theorem bytes_ne {l m : List UInt8} (h : l ≠ m) : ((⟨l.toArray⟩ : ByteArray).toList == (⟨m.toArray⟩ : ByteArray).toList) = false := by
  rw [ByteArray.toList_eq, ByteArray.toList_eq]
  simpa using h
theorem partB_all (l : List UInt8) (h : l.length = 256) : partB l 0 256 = l := by
  unfold partB
  simp [List.take_of_length_le, h]
def goodAt (s t : MS) (k : Nat) : Bool := decide (k ∈ t.ks) && decide (s.pm k = t.pm k ∧ s.data k = t.data k)
def sameM (s t : MS) : Bool := decide (s.ks.length = t.ks.length) && s.ks.all (goodAt s t)
theorem pageOf_key {k : Nat} (h : k % 256 = 0) : pageOf k = k := by unfold pageOf; omega
end Go.Proofs.Ytkpcajmphhdmiaa
