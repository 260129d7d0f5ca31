/- The document's example, and lists of words held against each other. -/
import Derived.Test.YtfbmkgdpejgjpaaPMG
namespace Go.Proofs.Ytfbmkgdpejgjpaa
open Go.ChangeShapes Go.WideShapes Go.ChangeAt Go.RowKit
set_option linter.unusedVariables false
theorem fresh_foot {mb bm most b : Nat} (h : foot (fresh mb bm most) b) : b = mb ∨ b = bm := by
  rcases h with h | h | ⟨k, hk, h⟩ | ⟨k, hk, h⟩ | h
  · exact .inl h
  · exact .inr h
  · simp [fresh] at hk
  · simp [fresh] at hk
  · simp [fresh, Value.ownBlock] at h
theorem newMem_step (z : Int) (w : World) : Calls Try.prog 9 #[.int .i64 z] w fun e w' => ∃ mb bm, e = .returned (.pointer (some ⟨mb, 0, none⟩)) ∧ MemW w' (fresh mb bm (cutMost z)) ∧ Below w.heap.size w w' ∧ ∀ b, foot (fresh mb bm (cutMost z)) b → w.heap.size ≤ b := by
  refine (newMem_any z w).mono ?_
  rintro e w' ⟨he, hm, hb⟩
  refine ⟨_, _, he, hm, hb, fun b hf => ?_⟩
  rcases fresh_foot hf with h | h <;> omega
theorem awake_any (w : World) : Calls Try.prog 37 #[] w fun e w' => e = .returned (.bool true) ∧ Below w.heap.size w w' := by
  have H9 := hidden (newMem_step 1 w)
  have ec : cutMost 1 = 1 := by decide
  rw [ec] at H9
  clear ec
  have H12 : Hid (∀ mb bm w1, MemW w1 (fresh mb bm 1) → Calls Try.prog 12 #[.pointer (some ⟨mb, 0, none⟩), .int .u32 100, .int .i64 6] w1 fun e w' => e = .returned (.int .i64 0) ∧ Step w1 (fresh mb bm 1) w' ((fresh mb bm 1).mapped 100 6 w1.heap.size)) := fun mb bm w1 h => map_any w1 _ 100 6 h (by omega)
  have H24 : Hid (∀ mb bm q w1, MemW w1 ((fresh mb bm 1).mapped 100 6 q) → Calls Try.prog 24 #[.pointer (some ⟨mb, 0, none⟩), .int .u32 255] w1 fun e w' => e = .returned (.bool true) ∧ ∃ n, w' = w1.drewN n) := fun mb bm q w1 h => mapped_any w1 _ 255 h (by omega)
  have H12b : Hid (∀ mb bm q w1, MemW w1 ((fresh mb bm 1).mapped 100 6 q) → Calls Try.prog 12 #[.pointer (some ⟨mb, 0, none⟩), .int .u32 256, .int .i64 6] w1 fun e w' => e = .returned (.int .i64 2) ∧ Step w1 ((fresh mb bm 1).mapped 100 6 q) w' ((fresh mb bm 1).mapped 100 6 q)) := fun mb bm q w1 h => map_any w1 _ 256 6 h (by omega)
  have H26 : Hid (∀ mb bm q w1, MemW w1 ((fresh mb bm 1).mapped 100 6 q) → Calls Try.prog 26 #[.pointer (some ⟨mb, 0, none⟩), .int .u32 7] w1 fun e w' => e = .returned (.int .i64 6) ∧ ∃ n, w' = w1.drewN n) := fun mb bm q w1 h => permOf_any w1 _ 7 h (by omega)
  go_enter Try.func37, Try.ntmps37
  go_wp2_with (first | (go_at_call 9; refine (Hid.out H9).mono ?_; rintro e w1 ⟨mb, bm, rfl, hm, hb, hf⟩; have HM := hidden hm; have HB := hidden hb; have HF := hidden hf; clear hm hb hf H9) | (go_at_call 12; refine (Hid.out H12 mb bm _ (Hid.out HM)).mono ?_; rintro e w2 ⟨rfl, hs⟩; have HS := hidden hs; clear hs H12) | (go_at_call 24; refine (Hid.out H24 mb bm _ _ (Step.mem (Hid.out HS))).mono ?_; rintro e w3 ⟨rfl, hs⟩; have HS3 := hidden (Step.trans (Hid.out HS) (Step.drew (Step.mem (Hid.out HS)) hs)); clear hs H24) | (go_at_call 12; refine (Hid.out H12b mb bm _ _ (Step.mem (Hid.out HS3))).mono ?_; rintro e w4 ⟨rfl, hs⟩; have HS4 := hidden (Step.trans (Hid.out HS3) hs); clear hs H12b) | (go_at_call 26; refine (Hid.out H26 mb bm _ _ (Step.mem (Hid.out HS4))).mono ?_; rintro e w5 ⟨rfl, hs⟩; have HS5 := hidden (Step.trans (Hid.out HS4) (Step.drew (Step.mem (Hid.out HS4)) hs)); clear hs H26))
  go_ret
  exact ⟨rfl, (Hid.out HB).trans ((Hid.out HS5).below (Hid.out HB).size (Hid.out HF)).1⟩
/-- Words in memory. -/
def Wds (w : World) (v : Value) (l : List Nat) : Prop := ∃ ao cap, v = .slice ao l.length cap ∧ (l = [] ∨ ∃ b off, ao = some ⟨b, off, none⟩ ∧ b < w.heap.size ∧ ∀ j, j < l.length → w.cell? ⟨b, off + j, none⟩ = some (.int .u32 ((l.getD j 0 : Nat) : Int)))
theorem wds_of_row {w : World} {base n : Nat} {v : Value} {l : List Nat} (h : w.ownsRow base 27 1 v n (words l)) : Wds w v l := by
  have hn : n = l.length := by have := h.1; rw [words_len] at this; omega
  subst hn
  rcases h.2 with ⟨e, h0⟩ | ⟨g, cap, cur, e, _, hg, hnc, hcm, _, htake⟩
  · exact ⟨none, 0, by rw [e, h0], .inl (List.eq_nil_of_length_eq_zero h0)⟩
  · refine ⟨_, cap, e, .inr ⟨g, 0, rfl, (Array.getElem?_eq_some_iff.1 hg).1, fun j hj => ?_⟩⟩
    subst e
    have hc := h.cellAt j (by omega)
    rw [words_get l j hj] at hc
    rw [Nat.zero_add]
    exact hc
theorem Wds.later {w w' : World} {v : Value} {l : List Nat} (h : Wds w v l) (hb : Below w.heap.size w w') : Wds w' v l := by
  obtain ⟨ao, cap, e, h⟩ := h
  refine ⟨ao, cap, e, ?_⟩
  rcases h with h | ⟨b, off, e2, hlt, hc⟩
  · exact .inl h
  · exact .inr ⟨b, off, e2, Nat.lt_of_lt_of_le hlt hb.size, fun j hj => (hb.cell (p := ⟨b, off + j, none⟩) hlt).trans (hc j hj)⟩
theorem sameWords_len (w : World) (v u : Value) (l m : List Nat) (hl : Wds w v l) (hm : Wds w u m) (hne : l.length ≠ m.length) : Calls Try.prog 16 #[v, u] w fun e w' => e = .returned (.bool false) ∧ w' = w := by
  obtain ⟨ao, cap, rfl, _⟩ := hl
  obtain ⟨bo, cap2, rfl, _⟩ := hm
  have h : ¬ (l.length : Int) = (m.length : Int) := by omega
  generalize (l.length) = x at h
  generalize (m.length) = y at h
  clear hne
  go_enter Try.func16, Try.ntmps16
  go_wp2
  go_ret
  exact ⟨rfl, rfl⟩
theorem sameWords_any (w : World) (v u : Value) (l : List Nat) (hl : Wds w v l) (hm : Wds w u l) (hlen : l.length ≤ 4611686018427387904) : Calls Try.prog 16 #[v, u] w fun e w' => e = .returned (.bool true) ∧ ∃ n, w' = w.drewN n := by
  obtain ⟨ao, cap, rfl, h1⟩ := hl
  obtain ⟨bo, cap2, rfl, h2⟩ := hm
  have H1 := hidden h1
  have H2 := hidden h2
  clear h1 h2
  go_enter Try.func16, Try.ntmps16
  go_wp2
  go_loopw [5] (fun i wr => ∃ (k n : Nat), k ≤ l.length ∧ i = .int .i64 (k : Int) ∧ wr = w.drewN n) (fun i _ => l.length - (intOf i).toNat)
  case atStart => exact ⟨0, 0, by omega, rfl, rfl⟩
  case round =>
    obtain ⟨k, n, hk, rfl, rfl⟩ := hrel
    by_cases hkn : k < l.length
    · obtain ⟨b, off, rfl, hc⟩ : ∃ b off, ao = some ⟨b, off, none⟩ ∧ w.cell? ⟨b, off + k, none⟩ = some (.int .u32 ((l.getD k 0 : Nat) : Int)) := by
        rcases Hid.out H1 with h | ⟨b, off, e, _, h⟩
        · rw [h] at hkn; simp at hkn
        · exact ⟨b, off, e, h k hkn⟩
      obtain ⟨b2, off2, rfl, hc2⟩ : ∃ b off, bo = some ⟨b, off, none⟩ ∧ w.cell? ⟨b, off + k, none⟩ = some (.int .u32 ((l.getD k 0 : Nat) : Int)) := by
        rcases Hid.out H2 with h | ⟨b, off, e, _, h⟩
        · rw [h] at hkn; simp at hkn
        · exact ⟨b, off, e, h k hkn⟩
      generalize l.getD k 0 = x at hc hc2
      clear H1 H2
      go_wp2
      go_quiet (fail)
      go_wp2
      go_roundw
      case rel => exact ⟨k + 1, _, by omega, by simp, rfl⟩
      case measure => simp [intOf]; omega
    · have hkk : ¬ (k : Int) < (l.length : Int) := by omega
      go_wp2
      go_ret
      exact ⟨rfl, _, rfl⟩
end Go.Proofs.Ytfbmkgdpejgjpaa
