/- Files that are not too much. -/
import Derived.Test.YtpknppicamefgaaLoadW
namespace Go.Proofs.Ytpknppicamefgaa
open Go.ChangeShapes Go.WideShapes Go.ChangeAt Go.RowKit
set_option linter.unusedVariables false
def fewB (l : List Sg) : Bool := (l.take 12).all (fun s => decide (s.data.length ≤ 4000)) && decide (l.length ≤ 12)
set_option maxRecDepth 20000 in
set_option maxHeartbeats 1000000 in
theorem fewFile_any (w : World) (ao : Option Addr) (cap ent : Nat) (l : List Sg) (h : Segs w ao l) (hcap : l.length ≤ cap) (hmax : cap ≤ 9223372036854775807) : Calls Try.prog 7 #[.agg #[.int .u32 (ent : Int), .slice ao l.length cap]] w fun e w' => e = .returned (.bool (fewB l)) ∧ Below w.heap.size w w' := by
  have hb0 := below_new w (.cells #[.int .u32 (ent : Int), .slice ao l.length cap] 25)
  have H := hidden (h.later hb0)
  have HB0 := hidden hb0
  have HF := hidden (Blk.new w #[.int .u32 (ent : Int), .slice ao l.length cap] 25)
  clear h hb0
  go_enter Try.func7, Try.ntmps7
  go_wp2
  go_loopw [3] (fun x3 wr => ∃ k : Nat, k ≤ l.length ∧ k ≤ 12 ∧ x3 = .int .i64 (k : Int) ∧ wr = w.alloc (.cells #[.int .u32 (ent : Int), .slice ao l.length cap] 25) ∧ ∀ j, j < k → (l.getD j nosg).data.length ≤ 4000) (fun x3 _ => 12 - (intOf x3).toNat)
  case atStart => exact ⟨0, by omega, by omega, rfl, rfl, by omega⟩
  case round =>
    obtain ⟨k, hk1, hk2, rfl, hwr, hall⟩ := hrel
    have HA := hidden hall
    have HF2 : Hid (Blk wr w.heap.size #[.int .u32 (ent : Int), .slice ao l.length cap] 25) := by rw [hwr]; exact Hid.out HF
    have HS2 : Hid (Segs wr ao l) := by rw [hwr]; exact Hid.out H
    have HB2 : Hid (Below w.heap.size w wr) := by rw [hwr]; exact Hid.out HB0
    have HWR := hidden hwr
    have g1 : wr.cell? ⟨w.heap.size, 1, none⟩ = some (.slice ao l.length cap) := (Hid.out HF2).cell rfl
    have hgl := (Hid.out HF2).lt
    clear hall hwr
    by_cases hkl : k < l.length
    · have hkl2 : (k : Int) < (l.length : Int) := by omega
      by_cases hk12 : k < 12
      · have hk122 : (k : Int) < 12 := by omega
        obtain ⟨b, off, rfl, hlt, hc⟩ := (Hid.out HS2).at hkl
        obtain ⟨c0, c1, c2, c3, fit⟩ := hc k hkl
        have hld := fit.ld
        obtain ⟨d, hd⟩ : ∃ d, d = (l.getD k nosg).data := ⟨_, rfl⟩
        rw [← hd] at c1 hld
        have HD := hidden hd
        have hds : (ByteArray.mk d.toArray).size = d.length := by simp [ByteArray.size]
        clear hc c0 c2 c3 fit hd
        by_cases h4 : d.length ≤ 4000
        · have h42 : ¬ (4000 : Int) < (d.length : Int) := by omega
          go_wp2
          go_roundw
          case rel => first | exact ⟨k + 1, by omega, by omega, by simp, Hid.out HWR, upto (P := fun j => (l.getD j nosg).data.length ≤ 4000) (Hid.out HA) (by rw [← Hid.out HD]; exact h4)⟩ | ((repeat apply Exists.intro); exact ⟨⟨k + 1, by omega, by omega, by simp, Hid.out HWR, upto (P := fun j => (l.getD j nosg).data.length ≤ 4000) (Hid.out HA) (by rw [← Hid.out HD]; exact h4)⟩, rfl⟩)
          case measure => simp [intOf]; omega
        · have h42 : (4000 : Int) < (d.length : Int) := by omega
          have HR : Hid (fewB l = false) := by
            show fewB l = false
            unfold fewB
            rw [Bool.and_eq_false_iff]
            left
            refine all_no (j := k) (by rw [List.length_take]; omega) ?_
            rw [List.getD_eq_getElem?_getD, List.getElem?_take_of_lt hk12, ← List.getD_eq_getElem?_getD, ← Hid.out HD]
            exact decide_eq_false h4
          go_wp2
          go_ret
          exact ⟨ret_bool (Hid.out HR).symm, Hid.out HB2⟩
      · have hk122 : ¬ (k : Int) < 12 := by omega
        have hl12 : ¬ (l.length : Int) ≤ 12 := by omega
        have HR : Hid (fewB l = false) := by
          show fewB l = false
          unfold fewB
          rw [decide_eq_false (show ¬ l.length ≤ 12 by omega), Bool.and_false]
        go_wp2
        go_ret
        exact ⟨ret_bool (Hid.out HR).symm, Hid.out HB2⟩
    · have hkl2 : decide ((k : Int) < (l.length : Int)) = false := by simp; omega
      have hl12 : (l.length : Int) ≤ 12 := by omega
      have HR : Hid (fewB l = true) := by
        show fewB l = true
        unfold fewB
        rw [decide_eq_true (show l.length ≤ 12 by omega), Bool.and_true]
        refine all_yes fun j hj => ?_
        rw [List.length_take] at hj
        rw [List.getD_eq_getElem?_getD, List.getElem?_take_of_lt (by omega), ← List.getD_eq_getElem?_getD]
        exact decide_eq_true (Hid.out HA j (by omega))
      go_wp2
      go_ret
      exact ⟨ret_bool (Hid.out HR).symm, Hid.out HB2⟩
end Go.Proofs.Ytpknppicamefgaa
