/- Some bytes of a page. -/
import Derived.Test.YtfbmkgdpejgjpaaRowy
import Derived.Outline
namespace Go.Proofs.Ytfbmkgdpejgjpaa
open Go.ChangeShapes Go.WideShapes Go.ChangeAt Go.RowKit
set_option linter.unusedVariables false
theorem made_any (M : Int) (h0 : 0 ≤ M) (h1 : M ≤ 256) (w : World) : (Instr.makeSlice 45 (.int .i64 M) (.int .i64 M)).run Try.prog w = .ok (.slice (some ⟨w.heap.size, 0, none⟩) M.toNat M.toNat) (w.alloc (.cells (madeCells #[.int .u8 0] M.toNat) 5)) := by
  obtain ⟨i0, hi, hz0, hz1, hz2⟩ := info_parts info5
  have h := run_make (P := Try.prog) w 45 5 i0 (.int .u8 0) Try.underlying45 hi hz0 .i64 .i64 M M h0 (Int.le_refl _) (by rw [hz2]; omega) (by omega)
  rw [hz1, Nat.mul_one] at h
  exact h
theorem arrayLen31 : Try.prog.arrayLen 81 = 256 := by kernel_rfl
theorem elemSize31 (w : World) : (sizeOf (Try.prog.elem 81)).run Try.prog w = .ok 1 w := by kernel_rfl
theorem sliced_any (b : Nat) (i m : Int) (h0 : 0 ≤ i) (h1 : i < 256) (h2 : i ≤ m) (h3 : m ≤ 256) (w : World) : (Instr.sliceAt 81 (.pointer (some ⟨b, 0, none⟩)) (some (.int .i64 i)) (some (.int .i64 m)) none).run Try.prog w = .ok (.slice (some ⟨b, i.toNat, none⟩) (m.toNat - i.toNat) (256 - i.toNat)) w := by
  have h := run_sliceAt_array_lh (P := Try.prog) w 81 ⟨b, 0, none⟩ (by kernel_rfl) .i64 .i64 i m h0 h2 (by rw [arrayLen31]; exact h3)
  rw [h, elemSize31, arrayLen31]
  simp only [Result.andThen_ok, slicedAt, Nat.mul_one]
  rw [if_neg (by omega), Addr.add_lit, Nat.zero_add]
theorem partB_len (l : List UInt8) (i M : Int) (hl : l.length = 256) (h0 : 0 ≤ i) (h1 : 0 ≤ M) (h2 : i + M ≤ 256) : (partB l i M).length = M.toNat := by
  unfold partB
  rw [List.length_take, List.length_drop, hl]
  omega
theorem partB_get (l : List UInt8) (i M : Int) (j : Nat) (hj : j < M.toNat) : (partB l i M).getD j 0 = l.getD (i.toNat + j) 0 := by
  unfold partB
  rw [List.getD_eq_getElem?_getD, List.getElem?_take_of_lt hj, List.getElem?_drop, List.getD_eq_getElem?_getD]
theorem part_cells {T : TypeId} {w : World} {b : Nat} {l : List UInt8} {p c : Int} (h : Pg T w b l p c) (i M : Int) (h0 : 0 ≤ i) (h1 : 0 ≤ M) (h2 : i + M ≤ 256) : ∀ j v, (cellsU (partB l i M))[j]? = some v → w.cell? ((⟨b, i.toNat, none⟩ : Addr).add j) = some v := by
  have hl := partB_len l i M h.len h0 h1 h2
  refine Lies.cells (fun j hj => ?_)
  rw [hl] at hj
  rw [partB_get l i M j hj]
  exact h.byte (by omega)
theorem copied {w : World} {g : Nat} {l : List UInt8} {i M : Int} {z : Array Value} (hl : (partB l i M).length = M.toNat) (hz : z.size = M.toNat) (hM : M ≤ 256) (h : w.heap[g]? = some (.cells (splice z.toList 0 (cellsU (partB l i M))).toArray 5 (0, 0))) : Row w (some ⟨g, 0, none⟩) (partB l i M) M.toNat := by
  refine ⟨Nat.le_of_eq hl, by simp only [maxLen]; omega, by simp, .inr ⟨g, 0, rfl, fun j hj => ?_⟩⟩
  rw [Nat.zero_add, cell_of_row _ _ _ _ _ _ h, List.getElem?_toArray, splice, List.take_zero, List.nil_append, List.getElem?_append_left (by rw [cellsU_len]; exact hj), cellsU_get _ _ hj]
theorem size5 : (Try.prog.info? 5).map (·.size) = some 1 := by kernel_rfl
theorem run_part {w : World} {b : Nat} {l : List UInt8} {p c : Int} (h : Pg 93 w b l p c) (i M : Int) (S : Nat) (h0 : 0 ≤ i) (h1 : 0 ≤ M) (h2 : i + M ≤ 256) (hS : S = M.toNat) :
    ∃ v w2, (Builtin.copy_ #[45, 45] 3 #[.slice (some ⟨w.heap.size, 0, none⟩) M.toNat M.toNat, .slice (some ⟨b, i.toNat, none⟩) S (256 - i.toNat)]).run Try.prog (w.alloc (.cells (madeCells #[.int .u8 0] M.toNat) 5)) = .ok v w2 ∧ Row w2 (some ⟨w.heap.size, 0, none⟩) (partB l i M) M.toNat ∧ Below w.heap.size w w2 := by
  have hpl := partB_len l i M h.len h0 h1 h2
  have hcl := part_cells (h.later ((Below.refl _ _).alloc (Nat.le_refl _) (.cells (madeCells #[.int .u8 0] M.toNat) 5))) i M h0 h1 h2
  have hms := size_madeCells #[.int .u8 0] M.toNat
  have hg := heap_alloc_new w (.cells (madeCells #[.int .u8 0] M.toNat) 5)
  have hr := run_copy_row (P := Try.prog) (w.alloc (.cells (madeCells #[.int .u8 0] M.toNat) 5)) 45 45 3 5 w.heap.size 0 M.toNat M.toNat ⟨b, i.toNat, none⟩ S (256 - i.toNat) _ 5 (cellsU (partB l i M)) Try.underlying45 size5 hg (by rw [cellsU_len, hpl, hS]; show _ = min _ _; omega) hcl (by rw [cellsU_len, hpl, hms]; omega) (cellsU_one _)
  refine ⟨_, _, hr, ?_, below_setRow ((Below.refl _ _).alloc (Nat.le_refl _) _) (Nat.le_refl _) _⟩
  refine copied hpl hms (by omega) ?_
  rw [setRow_heap _ _ _ _ 5 _ hg]
  rfl
set_option maxRecDepth 20000 in
set_option maxHeartbeats 1000000 in
theorem bytes_a (w : World) (b : Nat) (l : List UInt8) (p c i n : Int) (h : Pg 93 w b l p c) (hi : 0 ≤ i) (hi2 : i < 256) (hn : 0 < n) (hs : n ≤ 256 - i) :
    Calls Try.prog 62 #[.pointer (some ⟨b, 0, none⟩), .int .i64 i, .int .i64 n] w fun e w' => ∃ ao cap, e = .returned (.slice ao (partB l (i) (n)).length cap) ∧ Row w' ao (partB l (i) (n)) cap ∧ Below w.heap.size w w' := by
  have hmk := made_any (n) (by omega) (by omega)
  have hsl := sliced_any b (i) (i + n) (by omega) (by omega) (by omega) (by omega)
  have hpl := partB_len l (i) (n) h.len (by omega) (by omega) (by omega)
  rw [hpl]
  obtain ⟨vc, w2, hcp, hrow, hbel⟩ := run_part h (i) (n) ((i + n).toNat - (i).toNat) (by omega) (by omega) (by omega) (by omega)
  have HR := hidden hrow
  have HB := hidden hbel
  clear h hpl hrow hbel
  go_enter Try.func62, Try.ntmps62
  go_wp2_with (go_at_call 63; refine (there_yes _ _ hi hi2).mono ?_; rintro e w1 ⟨rfl, hww⟩; rw [hww]; clear hww w1)
  go_ret
  exact ⟨_, _, rfl, Hid.out HR, Hid.out HB⟩
set_option maxRecDepth 20000 in
set_option maxHeartbeats 1000000 in
theorem bytes_b (w : World) (b : Nat) (l : List UInt8) (p c i n : Int) (h : Pg 93 w b l p c) (hi : 0 ≤ i) (hi2 : i < 256) (hn : 256 - i < n) :
    Calls Try.prog 62 #[.pointer (some ⟨b, 0, none⟩), .int .i64 i, .int .i64 n] w fun e w' => ∃ ao cap, e = .returned (.slice ao (partB l (i) (256 - i)).length cap) ∧ Row w' ao (partB l (i) (256 - i)) cap ∧ Below w.heap.size w w' := by
  have hmk := made_any (256 - i) (by omega) (by omega)
  have hsl := sliced_any b (i) (i + (256 - i)) (by omega) (by omega) (by omega) (by omega)
  have hpl := partB_len l (i) (256 - i) h.len (by omega) (by omega) (by omega)
  rw [hpl]
  obtain ⟨vc, w2, hcp, hrow, hbel⟩ := run_part h (i) (256 - i) ((i + (256 - i)).toNat - (i).toNat) (by omega) (by omega) (by omega) (by omega)
  have HR := hidden hrow
  have HB := hidden hbel
  clear h hpl hrow hbel
  go_enter Try.func62, Try.ntmps62
  go_wp2_with (go_at_call 63; refine (there_yes _ _ hi hi2).mono ?_; rintro e w1 ⟨rfl, hww⟩; rw [hww]; clear hww w1)
  go_ret
  exact ⟨_, _, rfl, Hid.out HR, Hid.out HB⟩
set_option maxRecDepth 20000 in
set_option maxHeartbeats 1000000 in
theorem bytes_c (w : World) (b : Nat) (l : List UInt8) (p c i n : Int) (h : Pg 93 w b l p c) (hi : i < 0) (hn : 0 < n) (hs : n ≤ 256) :
    Calls Try.prog 62 #[.pointer (some ⟨b, 0, none⟩), .int .i64 i, .int .i64 n] w fun e w' => ∃ ao cap, e = .returned (.slice ao (partB l (0) (n)).length cap) ∧ Row w' ao (partB l (0) (n)) cap ∧ Below w.heap.size w w' := by
  have hz : (0 : Int) ≤ 0 := by omega
  have hz2 : (0 : Int) < 256 := by omega
  have hmk := made_any (n) (by omega) (by omega)
  have hsl := sliced_any b (0) (n) (by omega) (by omega) (by omega) (by omega)
  have hpl := partB_len l (0) (n) h.len (by omega) (by omega) (by omega)
  rw [hpl]
  obtain ⟨vc, w2, hcp, hrow, hbel⟩ := run_part h (0) (n) (n.toNat - (0 : Int).toNat) (by omega) (by omega) (by omega) (by omega)
  have HR := hidden hrow
  have HB := hidden hbel
  have H22 := fun w => hidden (there_yes 0 w hz hz2)
  simp only [Int.toNat_zero, Nat.sub_zero] at hsl hcp
  clear h hpl hrow hbel hz hz2
  go_enter Try.func62, Try.ntmps62
  go_wp2_with (go_at_call 63; refine (Hid.out (H22 _)).mono ?_; rintro e w1 ⟨rfl, hww⟩; rw [hww]; clear hww w1)
  go_ret
  exact ⟨_, _, rfl, Hid.out HR, Hid.out HB⟩
set_option maxRecDepth 20000 in
set_option maxHeartbeats 1000000 in
theorem bytes_d (w : World) (b : Nat) (l : List UInt8) (p c i n : Int) (h : Pg 93 w b l p c) (hi : i < 0) (hn : 256 < n) :
    Calls Try.prog 62 #[.pointer (some ⟨b, 0, none⟩), .int .i64 i, .int .i64 n] w fun e w' => ∃ ao cap, e = .returned (.slice ao (partB l (0) (256)).length cap) ∧ Row w' ao (partB l (0) (256)) cap ∧ Below w.heap.size w w' := by
  have hz : (0 : Int) ≤ 0 := by omega
  have hz2 : (0 : Int) < 256 := by omega
  have hmk := made_any (256) (by omega) (by omega)
  have hsl := sliced_any b (0) (256) (by omega) (by omega) (by omega) (by omega)
  have hpl := partB_len l (0) (256) h.len (by omega) (by omega) (by omega)
  rw [hpl]
  obtain ⟨vc, w2, hcp, hrow, hbel⟩ := run_part h (0) (256) ((256 : Int).toNat - (0 : Int).toNat) (by omega) (by omega) (by omega) (by omega)
  have HR := hidden hrow
  have HB := hidden hbel
  have H22 := fun w => hidden (there_yes 0 w hz hz2)
  simp only [Int.toNat_zero, Nat.sub_zero, Int.reduceToNat] at hmk hsl hcp ⊢
  clear h hpl hrow hbel hz hz2
  go_enter Try.func62, Try.ntmps62
  go_wp2_with (go_at_call 63; refine (Hid.out (H22 _)).mono ?_; rintro e w1 ⟨rfl, hww⟩; rw [hww]; clear hww w1)
  go_ret
  exact ⟨_, _, rfl, Hid.out HR, Hid.out HB⟩
theorem bytes_e (w : World) (b : Nat) (i n : Int) (hn : n ≤ 0) :
    Calls Try.prog 62 #[.pointer (some ⟨b, 0, none⟩), .int .i64 i, .int .i64 n] w fun e w' => e = .returned (.slice none 0 0) ∧ w' = w := by
  by_cases hi : i < 0
  all_goals
    go_enter Try.func62, Try.ntmps62
    go_wp2
    go_ret
    exact ⟨rfl, rfl⟩
theorem bytes_f (w : World) (b : Nat) (i n : Int) (hn : 0 < n) (hi : 256 ≤ i) :
    Calls Try.prog 62 #[.pointer (some ⟨b, 0, none⟩), .int .i64 i, .int .i64 n] w fun e w' => e = .returned (.slice none 0 0) ∧ w' = w := by
  have hi0 : ¬ i < 0 := by omega
  have hd : decide (n ≤ 0) = false := by simp; omega
  have H22 := fun w => hidden (there_no i w (by omega))
  go_enter Try.func62, Try.ntmps62
  go_wp2_with (go_at_call 63; refine (Hid.out (H22 _)).mono ?_; rintro e w1 ⟨rfl, hww⟩; rw [hww]; clear hww w1)
  go_ret
  exact ⟨rfl, rfl⟩
theorem bytes_any (w : World) (b : Nat) (l : List UInt8) (p c i n : Int) (h : Pg 93 w b l p c) :
    Calls Try.prog 62 #[.pointer (some ⟨b, 0, none⟩), .int .i64 i, .int .i64 n] w fun e w' => ∃ ao cap, e = .returned (.slice ao (partB l i n).length cap) ∧ Row w' ao (partB l i n) cap ∧ Below w.heap.size w w' := by
  have hnil : partB l i n = [] → ∀ (e : Ending) (w' : World), (e = .returned (.slice none 0 0) ∧ w' = w) → ∃ ao cap, e = .returned (.slice ao (partB l i n).length cap) ∧ Row w' ao (partB l i n) cap ∧ Below w.heap.size w w' := by
    rintro h0 e w' ⟨rfl, rfl⟩
    rw [h0]
    exact ⟨none, 0, rfl, Row.none _, Below.refl _ _⟩
  have hl := h.len
  by_cases hn : n ≤ 0
  · refine (bytes_e w b i n hn).mono (hnil ?_)
    have : n.toNat = 0 := by omega
    simp [partB, this]
  · by_cases hi : 256 ≤ i
    · refine (bytes_f w b i n (by omega) hi).mono (hnil ?_)
      unfold partB
      rw [List.drop_eq_nil_of_le (by omega), List.take_nil]
    · by_cases h0 : i < 0
      · have e0 : partB l i n = partB l 0 n := by
          have : i.toNat = 0 := by omega
          simp [partB, this]
        rw [e0]
        by_cases h1 : n ≤ 256
        · exact bytes_c w b l p c i n h h0 (by omega) h1
        · have e1 : partB l 0 n = partB l 0 256 := by
            unfold partB
            rw [List.take_of_length_le (by rw [List.length_drop]; omega), List.take_of_length_le (by rw [List.length_drop, hl]; decide)]
          rw [e1]
          exact bytes_d w b l p c i n h h0 (by omega)
      · by_cases h1 : n ≤ 256 - i
        · exact bytes_a w b l p c i n h (by omega) (by omega) (by omega) h1
        · have e1 : partB l i n = partB l i (256 - i) := by
            unfold partB
            rw [List.take_of_length_le (by rw [List.length_drop]; omega), List.take_of_length_le (by rw [List.length_drop, hl]; omega)]
          rw [e1]
          exact bytes_b w b l p c i n h (by omega) (by omega) (by omega)
end Go.Proofs.Ytfbmkgdpejgjpaa
