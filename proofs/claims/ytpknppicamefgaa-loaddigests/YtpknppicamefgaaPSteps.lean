/- A memory from call to call: what it says, which blocks are its own, what is left of others. -/
import Derived.Test.YtpknppicamefgaaPPokes
namespace Go.Proofs.Ytpknppicamefgaa
open Go.ChangeShapes Go.WideShapes Go.ChangeAt Go.RowKit
set_option linter.unusedVariables false
/-- From one world and memory to another: nothing else has turned. -/
structure Step (w : World) (s : MS) (w' : World) (s' : MS) : Prop where
  mem : MemW w' s'
  keep : Keep (foot s) w w'
  grow : ∀ b, foot s' b → foot s b ∨ w.heap.size ≤ b
/-- No block in common. -/
def Apart (s t : MS) : Prop := ∀ b, foot s b → ¬ foot t b
theorem Apart.symm {s t : MS} (h : Apart s t) : Apart t s := fun b h1 h2 => h b h2 h1
theorem Step.refl {w : World} {s : MS} (h : MemW w s) : Step w s w s := ⟨h, Keep.refl _ _, fun _ hb => .inl hb⟩
theorem Step.drew {w w' : World} {s : MS} (h : MemW w s) (e : ∃ n, w' = w.drewN n) : Step w s w' s := by
  obtain ⟨n, rfl⟩ := e
  exact ⟨h.drewN n, (Keep.refl _ _).drewN n, fun _ hb => .inl hb⟩
theorem Step.later {w w' : World} {s : MS} (h : MemW w s) (hb : Below w.heap.size w w') : Step w s w' s := ⟨h.later hb, Keep.of_below hb, fun _ hb => .inl hb⟩
theorem Step.trans {u v w : World} {r s t : MS} (h : Step u r v s) (k : Step v s w t) : Step u r w t := by
  refine ⟨k.mem, h.keep.trans k.keep fun b hb hs => ?_, fun b hb => ?_⟩
  · rcases h.grow b hs with h1 | h1
    · exact h1
    · omega
  · rcases k.grow b hb with h1 | h1
    · exact h.grow b h1
    · exact .inr (Nat.le_trans h.keep.size h1)
theorem Step.apart {w w' : World} {s s' t : MS} (h : Step w s w' s') (ht : MemW w t) (ha : Apart s t) : MemW w' t ∧ Apart s' t := by
  refine ⟨ht.keep h.keep fun b hb hs => ha b hs hb, fun b hb hbt => ?_⟩
  rcases h.grow b hb with h1 | h1
  · exact ha b h1 hbt
  · have := ht.lt hbt
    omega
theorem Step.below {w w' : World} {s s' : MS} {B : Nat} (h : Step w s w' s') (hB : B ≤ w.heap.size) (hf : ∀ b, foot s b → B ≤ b) : Below B w w' ∧ ∀ b, foot s' b → B ≤ b := by
  refine ⟨h.keep.below hB hf, fun b hb => ?_⟩
  rcases h.grow b hb with h1 | h1
  · exact hf b h1
  · omega
/-- A row of words that is none of the memory's. -/
theorem Step.row {w w' : World} {s s' : MS} {v : Value} {n base : Nat} {xs : List Value} (h : Step w s w' s') (hr : w.ownsRow base 22 1 v n xs) (hf : ∀ g, v.ownBlock = some g → ¬ foot s g) : w'.ownsRow base 22 1 v n xs ∧ ∀ g, v.ownBlock = some g → ¬ foot s' g := by
  have hlt : ∀ g, v.ownBlock = some g → g < w.heap.size := by
    intro g hg
    rcases hr.2 with ⟨e, _⟩ | ⟨g', cap, cur, e, _, hc, _⟩
    · rw [e] at hg; simp [Value.ownBlock] at hg
    · rw [e] at hg
      simp [Value.ownBlock] at hg
      subst hg
      exact (Array.getElem?_eq_some_iff.1 hc).1
  refine ⟨ownsRow_same hr fun g hg => h.keep.block g (hlt g hg) (hf g hg), fun g hg hb => ?_⟩
  rcases h.grow g hb with h1 | h1
  · exact hf g hg h1
  · have := hlt g hg
    omega
def MS.mapped (s : MS) (a : Nat) (z : Int) (b : Nat) : MS := if pageOf a ∈ s.ks then s.also (pageOf a) z else if s.ks.length < s.most then s.lay (pageOf a) (b + 1) b zeros (z % 8) false else s
def MS.mapErr (s : MS) (a : Nat) : Int := if pageOf a ∈ s.ks ∨ s.ks.length < s.most then 0 else 2
theorem map_any (w : World) (s : MS) (a : Nat) (z : Int) (h : MemW w s) (ha : a < 4294967296) : Calls Try.prog 57 #[.pointer (some ⟨s.mb, 0, none⟩), .int .u32 (a : Int), .int .i64 z] w fun e w' => e = .returned (.int .i64 (s.mapErr a)) ∧ Step w s w' (s.mapped a z w.heap.size) := by
  by_cases hk : pageOf a ∈ s.ks
  · refine (map_in w s a z h ha hk).mono ?_
    rintro e w' ⟨he, hm, hkp⟩
    unfold MS.mapErr MS.mapped
    rw [if_pos (.inl hk), if_pos hk]
    exact ⟨he, hm, hkp.mono fun b _ e => .inr (.inr (.inr (.inl ⟨_, hk, e⟩))), fun b hb => .inl hb⟩
  · by_cases hr : s.ks.length < s.most
    · refine (map_new w s a z h ha hk hr).mono ?_
      rintro e w' ⟨he, hm, hkp⟩
      unfold MS.mapErr MS.mapped
      rw [if_pos (.inr hr), if_neg hk, if_pos hr]
      refine ⟨he, hm, hkp.mono fun b _ e => e.elim .inl fun e => .inr (.inl e), fun b hb => ?_⟩
      rcases hb with hb | hb | ⟨k, hk', hb⟩ | ⟨k, hk', hb⟩ | hb
      · exact .inl (.inl hb)
      · exact .inl (.inr (.inl hb))
      · by_cases e : k = pageOf a
        · subst e
          simp only [MS.lay, upd_same] at hb
          exact .inr (by omega)
        · simp only [MS.lay, upd_other _ _ e] at hb
          exact .inl (.inr (.inr (.inl ⟨k, by simpa [MS.lay, e] using hk', hb⟩)))
      · by_cases e : k = pageOf a
        · subst e
          simp only [MS.lay, upd_same] at hb
          exact .inr (by omega)
        · simp only [MS.lay, upd_other _ _ e] at hb
          exact .inl (.inr (.inr (.inr (.inl ⟨k, by simpa [MS.lay, e] using hk', hb⟩))))
      · exact .inl (.inr (.inr (.inr (.inr hb))))
    · refine (map_full w s a z h ha hk hr).mono ?_
      rintro e w' ⟨he, hn⟩
      unfold MS.mapErr MS.mapped
      rw [if_neg (by simp [hk, hr]), if_neg hk, if_neg hr]
      exact ⟨he, Step.drew h hn⟩
def MS.watchAt (s : MS) (a : Nat) (b : Bool) : MS := if pageOf a ∈ s.ks then s.watch (pageOf a) b else s
theorem told_any (w : World) (s : MS) (h : MemW w s) : Calls Try.prog 19 #[.pointer (some ⟨s.mb, 0, none⟩)] w fun e w' => e = .returned s.tv ∧ Step w s w' s.told ∧ w'.ownsRow 0 22 1 s.tv s.ts.length (words s.ts) ∧ ∀ g, s.tv.ownBlock = some g → ¬ foot s.told g := by
  refine (touched_any w s h).mono ?_
  rintro e w' ⟨he, hm, hkp⟩
  refine ⟨he, ⟨hm, hkp.mono fun b _ e => .inl e, fun b hb => .inl ?_⟩, ownsRow_same h.touched fun g hg => hkp.block g (h.lt (.inr (.inr (.inr (.inr hg))))) (h.tv_ne_mb hg), fun g hg hb => ?_⟩
  · rcases hb with hb | hb | hb | hb | hb
    · exact .inl hb
    · exact .inr (.inl hb)
    · exact .inr (.inr (.inl hb))
    · exact .inr (.inr (.inr (.inl hb)))
    · simp [MS.told, Value.ownBlock] at hb
  · rcases hb with hb | hb | ⟨k, hk, hb⟩ | ⟨k, hk, hb⟩ | hb
    · exact h.tv_ne_mb hg hb
    · exact h.tv_ne_bm hg hb
    · exact h.tv_ne_hb hg hk hb
    · exact h.tv_ne_pb hg hk hb
    · simp [MS.told, Value.ownBlock] at hb
def MS.pokeAt (s : MS) (a : Nat) (v : UInt8) (tv : Value) : MS := if pageOf a ∈ s.ks then s.poke a v tv else s
theorem poke_any (w : World) (s : MS) (a : Nat) (v : UInt8) (h : MemW w s) (ha : a < 4294967296) (hc : s.c < 1099511627776) : Calls Try.prog 58 #[.pointer (some ⟨s.mb, 0, none⟩), .int .u32 (a : Int), .int .u8 (v.toNat : Int)] w fun e w' => e = .returned (.bool (decide (pageOf a ∈ s.ks))) ∧ ∃ tv, Step w s w' (s.pokeAt a v tv) := by
  unfold MS.pokeAt
  by_cases hk : pageOf a ∈ s.ks
  · rw [decide_eq_true hk]
    simp only [if_pos hk]
    cases hon : s.on (pageOf a) with
    | false =>
      refine (poke_off w s a v h ha hk hon (by omega)).mono ?_
      rintro e w' ⟨he, hm, hkp⟩
      exact ⟨he, _, hm, hkp.mono fun b _ e => .inr (.inr (.inr (.inl ⟨_, hk, e⟩))), fun b hb => .inl hb⟩
    | true =>
      refine (poke_on w s a v h ha hk hon hc).mono ?_
      rintro e w' ⟨he, tv, hm, hkp, hl⟩
      refine ⟨he, tv, hm, hkp, fun b hb => ?_⟩
      rcases hb with hb | hb | hb | hb | hb
      · exact .inl (.inl hb)
      · exact .inl (.inr (.inl hb))
      · exact .inl (.inr (.inr (.inl hb)))
      · exact .inl (.inr (.inr (.inr (.inl hb))))
      · have hb : tv.ownBlock = some b := hb
        rcases hl with hl | ⟨g, hg, hl⟩
        · exact .inl (.inr (.inr (.inr (.inr (by rw [← hl]; exact hb)))))
        · rw [hl] at hb
          obtain rfl : g = b := by simpa using hb
          exact .inr hg
  · rw [decide_eq_false hk]
    simp only [if_neg hk]
    refine (poke_out w s a v h ha hk).mono ?_
    rintro e w' ⟨he, hn⟩
    exact ⟨he, .slice none 0 0, Step.drew h hn⟩
theorem pokeAt_mb (s : MS) (a : Nat) (v : UInt8) (tv : Value) : (s.pokeAt a v tv).mb = s.mb := by unfold MS.pokeAt; split <;> rfl
theorem pokeAt_ks (s : MS) (a : Nat) (v : UInt8) (tv : Value) : (s.pokeAt a v tv).ks = s.ks := by unfold MS.pokeAt; split <;> rfl
theorem pokeAt_on (s : MS) (a : Nat) (v : UInt8) (tv : Value) : (s.pokeAt a v tv).on = s.on := by unfold MS.pokeAt; split <;> rfl
theorem pokeAt_pm (s : MS) (a : Nat) (v : UInt8) (tv : Value) : (s.pokeAt a v tv).pm = s.pm := by unfold MS.pokeAt; split <;> rfl
theorem pokeAt_most (s : MS) (a : Nat) (v : UInt8) (tv : Value) : (s.pokeAt a v tv).most = s.most := by unfold MS.pokeAt; split <;> rfl
theorem pokeAt_c (s : MS) (a : Nat) (v : UInt8) (tv : Value) : (s.pokeAt a v tv).c ≤ s.c + 1 := by unfold MS.pokeAt; split <;> simp [MS.poke]
theorem pokeAt_ts (s : MS) (a : Nat) (v : UInt8) (tv : Value) : (s.pokeAt a v tv).ts = if s.watched a then s.ts ++ [a] else s.ts := by
  unfold MS.pokeAt MS.watched
  by_cases hk : pageOf a ∈ s.ks
  · rw [if_pos hk, decide_eq_true hk]
    simp [MS.poke]
  · rw [if_neg hk, decide_eq_false hk]
    simp
theorem mapped_mb (s : MS) (a : Nat) (z : Int) (b : Nat) : (s.mapped a z b).mb = s.mb := by unfold MS.mapped; split; rfl; split <;> rfl
theorem mapped_most (s : MS) (a : Nat) (z : Int) (b : Nat) : (s.mapped a z b).most = s.most := by unfold MS.mapped; split; rfl; split <;> rfl
theorem mapped_c (s : MS) (a : Nat) (z : Int) (b : Nat) : (s.mapped a z b).c = s.c := by unfold MS.mapped; split; rfl; split <;> rfl
theorem mapped_ts (s : MS) (a : Nat) (z : Int) (b : Nat) : (s.mapped a z b).ts = s.ts := by unfold MS.mapped; split; rfl; split <;> rfl
theorem mapped_tv (s : MS) (a : Nat) (z : Int) (b : Nat) : (s.mapped a z b).tv = s.tv := by unfold MS.mapped; split; rfl; split <;> rfl
theorem watchAt_mb (s : MS) (a : Nat) (b : Bool) : (s.watchAt a b).mb = s.mb := by unfold MS.watchAt; split <;> rfl
end Go.Proofs.Ytpknppicamefgaa
