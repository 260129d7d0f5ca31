/- Chapter 5's own memory: a cell of a page turned; Poke. -/
import Derived.Test.YtodoenimlhldjaaQMObj
namespace Go.Proofs.Ytodoenimlhldjaa
open Go.ChangeShapes Go.WideShapes Go.ChangeAt Go.RowKit
set_option linter.unusedVariables false
theorem blk_ne {w : World} {a b : Nat} {x y : Array Value} {T U : TypeId} (h : Blk w a x T) (k : Blk w b y U) (hT : T ≠ U) : a ≠ b := by
  rintro rfl
  have := h.symm.trans k
  simp at this
  exact hT this.2
theorem keep_set (w : World) (a : Addr) (v : Value) : Keep (· = a.block) w (w.setCell a v) :=
  ⟨rfl, rfl, rfl, by simp [World.setCell], fun k _ hk => Below.heap_setCell _ _ _ k hk⟩
theorem M5.blkT {w : World} {s : S5} (h : M5 w s) {g : Nat} (hg : s.vT.ownBlock = some g) : ∃ cur, Blk w g cur 23 := by
  rcases h.touched.2 with ⟨e, _⟩ | ⟨g', cap, cur, e, _, hc, _⟩
  · rw [e] at hg; simp [Value.ownBlock] at hg
  · rw [e] at hg
    simp [Value.ownBlock] at hg
    subst hg
    exact ⟨cur, hc⟩
theorem M5.blkP {w : World} {s : S5} (h : M5 w s) {g : Nat} (hg : s.vP.ownBlock = some g) : ∃ cur, Blk w g cur 116 := by
  rcases h.pages.2 with ⟨e, _⟩ | ⟨g', cap, cur, e, _, hc, _⟩
  · rw [e] at hg; simp [Value.ownBlock] at hg
  · rw [e] at hg
    simp [Value.ownBlock] at hg
    subst hg
    exact ⟨cur, hc⟩
theorem M5.drewN {w : World} {s : S5} (h : M5 w s) (n : Nat) : M5 (w.drewN n) s := ⟨h.self, h.pages, h.touched, h.fit, h.few⟩
theorem Step5.refl {w : World} {s : S5} (h : M5 w s) : Step5 w s w s := ⟨h, Keep.refl _ _, fun _ hb => .inl hb⟩
theorem Step5.trans {u v w : World} {r s t : S5} (h : Step5 u r v s) (k : Step5 v s w t) : Step5 u r w t := by
  refine ⟨k.mem, h.keep.trans k.keep fun b hb hs => ?_, fun b hb => ?_⟩
  · rcases h.grow b hs with h1 | h1
    · exact h1
    · omega
  · rcases k.grow b hb with h1 | h1
    · exact h.grow b h1
    · exact .inr (Nat.le_trans h.keep.size h1)
/-- One cell of one page turned. -/
theorem M5.set {w : World} {s : S5} (h : M5 w s) {k i : Nat} (hk : k < s.l.length) (hi : i < 259) {q : P5} {v : Value} (he : one5 q = (one5 (s.l.getD k nop5)).set i v) (hq : Fit5 q) {g off cap : Nat} (hv : s.vP = .slice (some ⟨g, off, none⟩) s.l.length cap) (h0 : off = 0) :
    Step5 w s (w.setCell ⟨g, off + k * 259 + i, none⟩ v) { s with l := s.l.set k q } := by
  subst h0
  have hgP : s.vP.ownBlock = some g := by rw [hv]; rfl
  obtain ⟨c1, hb1⟩ := h.blkP hgP
  have hgm : s.m ≠ g := blk_ne h.self hb1 (by decide)
  have hgt : ∀ t, s.vT.ownBlock = some t → t ≠ g := fun t ht => by
    obtain ⟨c2, hb2⟩ := h.blkT ht
    exact blk_ne hb2 hb1 (by decide)
  have out : ∀ b, b ≠ g → (w.setCell ⟨g, 0 + k * 259 + i, none⟩ v).heap[b]? = w.heap[b]? := fun b hb => Below.heap_setCell _ _ _ b hb
  refine ⟨⟨(out _ hgm).trans h.self, ?_, ownsRow_same h.touched fun t ht => out t (hgt t ht), ?_, ?_⟩, (keep_set w _ v).mono fun b _ hb => ?_, fun b hb => .inl hb⟩
  · show (w.setCell ⟨g, 0 + k * 259 + i, none⟩ v).ownsRow 0 116 259 s.vP (s.l.set k q).length (cells5 (s.l.set k q))
    rw [List.length_set, ← cells5_set h.fit k i q v hk hi he]
    refine ⟨by rw [List.length_set]; exact h.pages.1, ?_⟩
    rcases h.pages.2 with ⟨e, hz⟩ | ⟨g', cap', cur, e, hb, hg, hnc, hcm, hsz, htk⟩
    · omega
    · rw [hv] at e
      simp at e
      obtain ⟨rfl, rfl⟩ := e
      refine .inr ⟨g, cap, cur.setIfInBounds (0 + k * 259 + i) v, hv, hb, Lib.heap_setCell_same hg v, hnc, hcm, by simpa using hsz, ?_⟩
      rw [← htk, Array.toList_setIfInBounds, List.take_set, Nat.zero_add]
  · intro p hp
    rcases List.mem_or_eq_of_mem_set hp with hp | rfl
    · exact h.fit p hp
    · exact hq
  · show (s.l.set k q).length ≤ 1000
    rw [List.length_set]
    exact h.few
  · exact .inr (.inl (by rw [hgP]; exact congrArg some hb.symm))
end Go.Proofs.Ytodoenimlhldjaa
