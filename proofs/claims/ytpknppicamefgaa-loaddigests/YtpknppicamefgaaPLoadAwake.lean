/- The document's example. -/
import Derived.Test.YtpknppicamefgaaPLoadHas
import Derived.Test.YtpknppicamefgaaPPages
namespace Go.Proofs.Ytpknppicamefgaa
open Go.ChangeShapes Go.WideShapes Go.ChangeAt Go.RowKit
set_option linter.unusedVariables false
def exSg : Sg := ⟨4096, [], 300, 5⟩
theorem ex_ok : checkE 4096 [exSg] = 0 := by decide
theorem ex_ks : allKs 64 [exSg] = some [4096, 4352, 2147479040, 2147479296] := by decide
theorem segs_one4 {w : World} {b : Nat} {g : Sg} (h : Blk w b #[.int .u32 (g.at_ : Int), .string ⟨g.data.toArray⟩, .int .u32 (g.size : Int), .int .i64 g.perm] 44) (hf : Fit g) : Segs w (some ⟨b, 0, none⟩) [g] := by
  refine .inr ⟨b, 0, rfl, h.lt, fun j hj => ?_⟩
  obtain rfl : j = 0 := by simpa using hj
  exact ⟨h.cell rfl, h.cell rfl, h.cell rfl, h.cell rfl, hf⟩
set_option maxRecDepth 20000 in
set_option maxHeartbeats 1000000 in
theorem wake_any (w : World) : Calls Try.prog 8 #[] w fun e w' => e = .returned (.bool true) ∧ Below w.heap.size w w' := by
  obtain ⟨n, hn⟩ : ∃ n, w.heap.size = n := ⟨_, rfl⟩
  obtain ⟨W0, hW0⟩ : ∃ W0, (w.alloc (.cells #[.int .u32 4096, .string ⟨#[]⟩, .int .u32 300, .int .i64 5] 44)).alloc (.cells #[.int .u32 4096, .slice (some ⟨n, 0, none⟩) 1 1] 25) = W0 := ⟨_, rfl⟩
  have hb0 : Below n w W0 := by rw [← hW0, ← hn]; exact ((Below.refl _ w).alloc (Nat.le_refl _) _).alloc (by simp) _
  have hk0 : Blk W0 n #[.int .u32 4096, .string ⟨#[]⟩, .int .u32 300, .int .i64 5] 44 := by rw [← hW0, ← hn]; exact (heap_alloc_old _ _ (by simp)).trans (Blk.new w _ _)
  have H9 : Hid (Calls Try.prog 9 #[.agg #[.int .u32 4096, .slice (some ⟨n, 0, none⟩) 1 1], .int .i64 64] W0 fun e w1 => ∃ mb g, e = .returned (.tuple #[.pointer (some ⟨mb, 0, none⟩), .agg (stC 2147479536 4096 4100), .int .i64 0]) ∧ w1.heap.size = g ∧ ∀ w2 w3, Blk w3 g (stC 2147479536 4096 4100) 31 → Below g w1 w2 → Only g w2 w3 → Calls Try.prog 24 #[.pointer (some ⟨mb, 0, none⟩)] w3 fun e w4 => ∃ ao cap, e = .returned (.slice ao 4 cap) ∧ Blk w4 g (stC 2147479536 4096 4100) 31 ∧ Below n w w4) := by
    have h := load_file W0 (some ⟨n, 0, none⟩) 1 4096 [exSg] 64 (segs_one4 (g := exSg) hk0 ⟨by decide, by decide, by decide⟩) (by simp) (by omega) (by omega)
    refine Calls.mono h ?_
    rintro e w1 (⟨h1, _⟩ | ⟨_, h1, _⟩ | ⟨_, s, he, hL⟩)
    · exact absurd ex_ok h1
    · rw [show cutMost 64 = 64 by decide, ex_ks] at h1; cases h1
    · refine ⟨s.mb, w1.heap.size, he, rfl, fun w2 w3 hk3 hb2 ho3 => ?_⟩
      have hks := hL.ks
      rw [show cutMost 64 = 64 by decide, ex_ks] at hks
      have hks2 : s.ks = [4096, 4352, 2147479040, 2147479296] := (Option.some.inj hks).symm
      have ho2 := hL.own.step (Step.later hL.own.mem hb2)
      have hg2 : W0.heap.size ≤ w1.heap.size := hL.own.below.size
      have hnf : ¬ foot s w1.heap.size := fun hf => by have := hL.own.mem.lt hf; omega
      have ho4 := own_only ho2 ho3 hg2 hnf
      refine (pages_small w3 s ho4.mem (by rw [hks2]; decide)).mono ?_
      rintro e w4 ⟨ao, cap, l, he4, hp, _, _, hb4⟩
      have hl : l.length = 4 := by rw [hp.length_eq, hks2]; rfl
      rw [hl] at he4
      exact ⟨ao, cap, he4, hk3.later hb4, (hb0.trans (ho4.below.mono (by have := hb0.size; omega))).trans (hb4.mono (by have := hb0.size; have := ho4.below.size; omega))⟩
  have hk1 : Blk W0 (n + 1) #[.int .u32 4096, .slice (some ⟨n, 0, none⟩) 1 1] 25 := by
    have := Blk.new (w.alloc (.cells #[.int .u32 4096, .string ⟨#[]⟩, .int .u32 300, .int .i64 5] 44)) #[.int .u32 4096, .slice (some ⟨n, 0, none⟩) 1 1] 25
    rw [World.size_alloc, hn] at this
    rw [← hW0]; exact this
  have q0 : W0.cell? ⟨n + 1, 0, none⟩ = some (.int .u32 4096) := hk1.cell rfl
  have q1 : W0.cell? ⟨n + 1, 1, none⟩ = some (.slice (some ⟨n, 0, none⟩) 1 1) := hk1.cell rfl
  clear hb0 hk0 hk1
  go_enter Try.func8, Try.ntmps8
  go_wp2_with (first
    | (go_at_call 9; with_reducible refine (Hid.out H9).mono ?_; rintro e w1 ⟨mb, g, rfl, hg1, hf⟩; have HF := hidden hf; clear hf)
    | (refine wpList_allocSt rfl rfl ?_; rw [hg1]; rintro w2 hk2 hs2 hb2; have HK2 := hidden hk2; have HB2 := hidden hb2; clear hk2 hb2)
    | (refine wpList_storeSt rfl _ _ rfl g (stC 2147479536 4096 4100) rfl rfl (stC 0 0 0) (Hid.out HK2) (stC_size _ _ _) (stC_size _ _ _) (stC_one _ _ _) ?_; rintro w3 hk3 ho3; have H24 := hidden (Hid.out HF w2 w3 hk3 (Hid.out HB2) ho3); clear hk3 ho3)
    | (go_at_call 24; with_reducible refine (Hid.out H24).mono ?_; rintro e w4 ⟨ao, cap, rfl, hk4, hb4⟩; have c29 : w4.cell? ⟨g, 29, none⟩ = some (.int .u32 2147479536) := hk4.cell rfl; have c34 : w4.cell? ⟨g, 34, none⟩ = some (.int .u32 4096) := hk4.cell rfl; have HB4 := hidden hb4; clear hk4 hb4))
  go_ret
  exact ⟨rfl, by rw [hn]; exact Hid.out HB4⟩
end Go.Proofs.Ytpknppicamefgaa
