/- The library's random numbers, and the next power of two. -/
import Derived.Test.YtodoenimlhldjaaQHeaps
import Derived.Test.YtodoenimlhldjaaQHeapsW
import Derived.Test.YtodoenimlhldjaaQHeapSort
import Derived.Test.YtodoenimlhldjaaQRevs
import Derived.Test.YtodoenimlhldjaaQPartEq
import Derived.Test.YtodoenimlhldjaaQParting
import Derived.Test.YtodoenimlhldjaaQMedians
import Derived.Test.YtodoenimlhldjaaQPivots
import Derived.Test.YtodoenimlhldjaaQPartIns
import Derived.Test.YtodoenimlhldjaaQMAH
namespace Go.Proofs.Ytodoenimlhldjaa
open Go.ChangeShapes Go.WideShapes Go.ChangeAt Go.RowKit
set_option linter.unusedVariables false
def Rnd (w : World) (sb : Nat) (z : Int) : Prop := w.heap[sb]? = some (.cells #[.int .u64 z] 149 (0, 0))
theorem Rnd.cell {w : World} {sb : Nat} {z : Int} (h : Rnd w sb z) : w.cell? ⟨sb, 0, none⟩ = some (.int .u64 z) := cell_of_row _ _ _ _ _ _ h
theorem Rnd.thaw {w : World} {sb : Nat} {z : Int} (h : Rnd w sb z) : w.frozen? ⟨sb, 0, none⟩ = false := frozen_of_row _ _ _ _ _ h
theorem Rnd.set {w : World} {sb : Nat} {z : Int} (h : Rnd w sb z) (n : Nat) (y : Int) : Rnd ((w.drewN n).setCell ⟨sb, 0, none⟩ (.int .u64 y)) sb y := heap_setCell_same (w.drewN n) sb 0 #[.int .u64 z] 149 (.int .u64 y) h
theorem Rnd.put {w : World} {sb : Nat} {z : Int} (h : Rnd w sb z) (y : Int) : Rnd ((w.setCell ⟨sb, 0, none⟩ (.int .u64 y)).drew) sb y := heap_setCell_same w sb 0 #[.int .u64 z] 149 (.int .u64 y) h
theorem only_put (w : World) (sb : Nat) (v : Value) : Only sb w ((w.setCell ⟨sb, 0, none⟩ v).drew) := (((Only.refl sb w).setCell 0 v).drewN 1)
set_option maxRecDepth 20000 in
set_option maxHeartbeats 1000000 in
theorem next_any (w : World) (sb : Nat) (z : Int) (h : Rnd w sb z) : Calls Try.prog 98 #[.pointer (some ⟨sb, 0, none⟩)] w fun e w' => ∃ r y : Int, e = .returned (.int .u64 r) ∧ Rnd w' sb y ∧ Only sb w w' := by
  have c0 := h.cell
  have f0 := h.thaw
  have H := hidden h
  clear h
  go_enter Try.func98, Try.ntmps98
  go_wp2
  go_region
  obtain ⟨W1, hW1, r1, o1⟩ : ∃ W1, (w.setCell ⟨sb, 0, none⟩ (.int .u64 (bits .xor .u64 z (IntKind.u64.wrap (z * 8192))))).drew = W1 ∧ Rnd W1 sb (bits .xor .u64 z (IntKind.u64.wrap (z * 8192))) ∧ Only sb w W1 := ⟨_, rfl, Rnd.put (Hid.out H) _, only_put w sb _⟩
  rw [hW1]
  generalize bits .xor .u64 z (IntKind.u64.wrap (z * 8192)) = y1 at r1
  have c1 := r1.cell
  have f1 := r1.thaw
  have R1 := hidden r1
  have O1 := hidden o1
  clear hW1 r1 o1
  go_wp2
  go_region
  obtain ⟨W2, hW2, r2, o2⟩ : ∃ W2, (W1.setCell ⟨sb, 0, none⟩ (.int .u64 (bits .xor .u64 y1 (y1 / 128)))).drew = W2 ∧ Rnd W2 sb (bits .xor .u64 y1 (y1 / 128)) ∧ Only sb W1 W2 := ⟨_, rfl, Rnd.put (Hid.out R1) _, only_put W1 sb _⟩
  rw [hW2]
  generalize bits .xor .u64 y1 (y1 / 128) = y2 at r2
  have c2 := r2.cell
  have f2 := r2.thaw
  have R2 := hidden r2
  have O2 := hidden o2
  clear hW2 r2 o2
  go_wp2
  go_region
  obtain ⟨W3, hW3, r3, o3⟩ : ∃ W3, (W2.setCell ⟨sb, 0, none⟩ (.int .u64 (bits .xor .u64 y2 (IntKind.u64.wrap (y2 * 131072))))).drew = W3 ∧ Rnd W3 sb (bits .xor .u64 y2 (IntKind.u64.wrap (y2 * 131072))) ∧ Only sb W2 W3 := ⟨_, rfl, Rnd.put (Hid.out R2) _, only_put W2 sb _⟩
  rw [hW3]
  generalize bits .xor .u64 y2 (IntKind.u64.wrap (y2 * 131072)) = y3 at r3
  have c3 := r3.cell
  have R3 := hidden r3
  have O3 := hidden o3
  clear hW3 r3 o3
  go_wp2
  go_ret
  exact ⟨_, _, rfl, Hid.out R3, ((Hid.out O1).trans (Hid.out O2)).trans (Hid.out O3)⟩
def lenN (x : Nat) : Nat := if x < 16 then 4 else if x < 32 then 5 else if x < 64 then 6 else 7
set_option maxRecDepth 20000 in
theorem len64_at (x : Nat) (h8 : 8 ≤ x) (h64 : x ≤ 64) (w : World) : Calls Try.prog 95 #[.int .u64 (x : Int)] w fun e w' => e = .returned (.int .i64 (lenN x : Int)) ∧ w' = w := by
  have h1 : ¬ (4294967296 : Int) ≤ (x : Int) := by omega
  have h2 : ¬ (65536 : Int) ≤ (x : Int) := by omega
  have h3 : ¬ (256 : Int) ≤ (x : Int) := by omega
  go_enter Try.func95, Try.ntmps95
  go_wp2
  go_ret
  refine ⟨ret_int ?_, rfl⟩

  rcases (show x = 8 ∨ x = 9 ∨ x = 10 ∨ x = 11 ∨ x = 12 ∨ x = 13 ∨ x = 14 ∨ x = 15 ∨ x = 16 ∨ x = 17 ∨ x = 18 ∨ x = 19 ∨ x = 20 ∨ x = 21 ∨ x = 22 ∨ x = 23 ∨ x = 24 ∨ x = 25 ∨ x = 26 ∨ x = 27 ∨ x = 28 ∨ x = 29 ∨ x = 30 ∨ x = 31 ∨ x = 32 ∨ x = 33 ∨ x = 34 ∨ x = 35 ∨ x = 36 ∨ x = 37 ∨ x = 38 ∨ x = 39 ∨ x = 40 ∨ x = 41 ∨ x = 42 ∨ x = 43 ∨ x = 44 ∨ x = 45 ∨ x = 46 ∨ x = 47 ∨ x = 48 ∨ x = 49 ∨ x = 50 ∨ x = 51 ∨ x = 52 ∨ x = 53 ∨ x = 54 ∨ x = 55 ∨ x = 56 ∨ x = 57 ∨ x = 58 ∨ x = 59 ∨ x = 60 ∨ x = 61 ∨ x = 62 ∨ x = 63 ∨ x = 64 by omega) with rfl | rfl | rfl | rfl | rfl | rfl | rfl | rfl | rfl | rfl | rfl | rfl | rfl | rfl | rfl | rfl | rfl | rfl | rfl | rfl | rfl | rfl | rfl | rfl | rfl | rfl | rfl | rfl | rfl | rfl | rfl | rfl | rfl | rfl | rfl | rfl | rfl | rfl | rfl | rfl | rfl | rfl | rfl | rfl | rfl | rfl | rfl | rfl | rfl | rfl | rfl | rfl | rfl | rfl | rfl | rfl | rfl <;> simp [lenN, wrap64, ByteArray.getElem_eq_getElem_data]
theorem len_at (x : Nat) (h8 : 8 ≤ x) (h64 : x ≤ 64) (w : World) : Calls Try.prog 83 #[.int .u64 (x : Int)] w fun e w' => e = .returned (.int .i64 (lenN x : Int)) ∧ w' = w := by
  have H := hidden (len64_at x h8 h64 w)
  generalize lenN x = q at H ⊢
  go_enter Try.func83, Try.ntmps83
  go_wp2_with (go_at_call 95; refine (Hid.out H).mono ?_; rintro e w1 ⟨rfl, hww⟩; rw [hww]; clear hww w1)
  go_ret
  exact ⟨rfl, rfl⟩
theorem lenN_le {x : Nat} (h8 : 8 ≤ x) (h64 : x ≤ 64) : 4 ≤ lenN x ∧ lenN x ≤ 7 ∧ 2 ^ lenN x ≤ 2 * x := by
  unfold lenN
  by_cases a : x < 16
  · rw [if_pos a]; omega
  · rw [if_neg a]
    by_cases b : x < 32
    · rw [if_pos b]; omega
    · rw [if_neg b]
      by_cases c : x < 64
      · rw [if_pos c]; omega
      · rw [if_neg c]; omega
set_option maxRecDepth 20000 in
theorem pow_at (x : Nat) (h8 : 8 ≤ x) (h64 : x ≤ 64) (w : World) : Calls Try.prog 97 #[.int .i64 (x : Int)] w fun e w' => ∃ m : Nat, e = .returned (.int .u64 ((m + 1 : Nat) : Int)) ∧ m < 2 * x ∧ w' = w := by
  obtain ⟨q, hq⟩ : ∃ q, q = lenN x := ⟨_, rfl⟩
  have H := hidden (len_at x h8 h64 w)
  obtain ⟨l1, l2, l3⟩ := lenN_le h8 h64
  rw [← hq] at H l1 l2 l3
  clear hq
  rcases (show q = 4 ∨ q = 5 ∨ q = 6 ∨ q = 7 by omega) with rfl | rfl | rfl | rfl
  all_goals
    go_enter Try.func97, Try.ntmps97
    go_wp2_with (go_at_call 83; refine (Hid.out H).mono ?_; rintro e w1 ⟨rfl, hww⟩; rw [hww]; clear hww w1)
    go_ret
  · exact ⟨15, ret_int (by decide), by omega, rfl⟩
  · exact ⟨31, ret_int (by decide), by omega, rfl⟩
  · exact ⟨63, ret_int (by decide), by omega, rfl⟩
  · exact ⟨127, ret_int (by decide), by omega, rfl⟩
theorem and_u64 (r : Int) (k : Nat) (hk : k < 18446744073709551616) : ∃ n : Nat, bits .and .u64 r (k : Int) = (n : Int) ∧ n ≤ k := by
  refine ⟨(BitVec.ofInt 64 r &&& BitVec.ofInt 64 (k : Int)).toNat, ?_, ?_⟩
  · show IntKind.u64.wrap ((BitVec.ofInt 64 r &&& BitVec.ofInt 64 (k : Int)).toNat : Nat) = _
    rw [IntKind.wrap_u64]
    have := (BitVec.ofInt 64 r &&& BitVec.ofInt 64 (k : Int)).isLt
    omega
  · rw [BitVec.toNat_and]
    have e : (BitVec.ofInt 64 (k : Int)).toNat = k := by rw [BitVec.toNat_ofInt]; omega
    rw [e]
    exact Nat.and_le_right
end Go.Proofs.Ytodoenimlhldjaa
