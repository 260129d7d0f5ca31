/- VintEnds, walked. -/
import Derived.Test.YtokicdmbibbkpaaGets
import Derived.Test.YtokicdmbibbkpaaAwake
namespace Go.Proofs.Ytokicdmbibbkpaa
open Go.ChangeShapes Go.WideShapes Go.ChangeAt Go.RowKit
set_option linter.unusedVariables false
/-- The greatest number of n bytes, as the loop has it. -/
def vals (n : Nat) : Nat := (128 ^ n - 1) % 18446744073709551616
theorem vals_facts : ∀ n, n < 10 → 1 ≤ n → (enc (vals n)).length = n ∧ (enc (vals n + 1)).length = n + 1 ∧ vals n < 9223372036854775808 ∧ (vals n * 128 % 18446744073709551616 + 127) % 18446744073709551616 = vals (n + 1) := by decide +kernel
theorem put_nil (x : Nat) (n : Nat) (hx : x < 18446744073709551616) (hn : (enc x).length = n) (w : World) : Calls Try.prog 8 #[.slice none 0 0, .int .u64 (x : Int)] w fun e w' => ∃ a c, e = .returned (.slice a n c) ∧ Row w' a (enc x) c ∧ Below w.heap.size w w' := by
  refine (put_any none 0 [] x hx w (Row.none w) (by decide)).mono ?_
  rintro e w' ⟨a, c, rfl, hr, hb⟩
  rw [List.length_nil, Nat.zero_add, hn]
  exact ⟨a, c, rfl, hr, hb⟩
theorem encMax : enc 18446744073709551615 = [255, 255, 255, 255, 255, 255, 255, 255, 255, 1] := by decide +kernel
theorem heap_at {w : World} {g : Nat} (o : Obj) (h : w.heap.size = g) : (w.alloc o).heap[g]? = some o := by
  subst h
  exact heap_alloc_new w o
theorem get_lit (w : World) (g : Nat) (L : List UInt8) (n : Nat) (r : Nat × Nat × Nat) (hn : L.length = n) (h10 : n ≤ 10) (hr : getI L 0 = r) (hg : w.heap[g]? = some (.cells (cellsU L).toArray 5)) :
    Calls Try.prog 11 #[.slice (some ⟨g, 0, none⟩) n n, .int .i64 0] w fun e w' => e = .returned (tup r) ∧ w' = w := by
  subst hn
  have h := get_any (some ⟨g, 0, none⟩) L.length L 0 w ⟨Nat.le_refl _, by simp only [maxLen]; omega, by simp, .inr ⟨_, 0, rfl, fun j hj => by
    rw [cell_of_row _ _ _ _ _ _ hg, Nat.zero_add, List.getElem?_toArray]
    exact cellsU_get L j hj⟩⟩ (by omega)
  rw [hr] at h
  exact h
theorem c255 (w : World) (g : Nat) (hg : w.heap[g]? = some (.cells #[.int .u8 255, .int .u8 255, .int .u8 255, .int .u8 255, .int .u8 255, .int .u8 255, .int .u8 255, .int .u8 255, .int .u8 255, .int .u8 2] 5)) : Calls Try.prog 11 #[.slice (some ⟨g, 0, none⟩) 10 10, .int .i64 0] w fun e w' => e = .returned (.tuple #[.int .u64 0, .int .i64 0, .int .i64 4]) ∧ w' = w :=
  get_lit w g [255, 255, 255, 255, 255, 255, 255, 255, 255, 2] 10 (0, 0, 4) rfl (by decide) (by decide +kernel) hg
theorem c1280 (w : World) (g : Nat) (hg : w.heap[g]? = some (.cells #[.int .u8 128, .int .u8 0] 5)) : Calls Try.prog 11 #[.slice (some ⟨g, 0, none⟩) 2 2, .int .i64 0] w fun e w' => e = .returned (.tuple #[.int .u64 0, .int .i64 0, .int .i64 4]) ∧ w' = w :=
  get_lit w g [128, 0] 2 (0, 0, 4) rfl (by decide) (by decide +kernel) hg
theorem c128 (w : World) (g : Nat) (hg : w.heap[g]? = some (.cells #[.int .u8 128] 5)) : Calls Try.prog 11 #[.slice (some ⟨g, 0, none⟩) 1 1, .int .i64 0] w fun e w' => e = .returned (.tuple #[.int .u64 0, .int .i64 0, .int .i64 3]) ∧ w' = w :=
  get_lit w g [128] 1 (0, 0, 3) rfl (by decide) (by decide +kernel) hg
theorem cNil (w : World) : Calls Try.prog 11 #[.slice none 0 0, .int .i64 1] w fun e w' => e = .returned (.tuple #[.int .u64 0, .int .i64 0, .int .i64 1]) ∧ w' = w := by
  have h := get_any none 0 [] 1 w (Row.none w) (by decide)
  rw [getI_out (by simp)] at h
  exact h
theorem putMax (w : World) : Calls Try.prog 8 #[.slice none 0 0, .int .u64 18446744073709551615] w fun e w' => ∃ a c, e = .returned (.slice a 10 c) ∧ (∀ wx, wx = w' → Calls Try.prog 11 #[.slice a 10 c, .int .i64 0] wx fun e2 w2 => e2 = .returned (.tuple #[.int .u64 18446744073709551615, .int .i64 10, .int .i64 0]) ∧ w2 = wx) ∧ Below w.heap.size w w' := by
  refine (put_nil 18446744073709551615 10 (by omega) (by rw [encMax]; rfl) w).mono ?_
  rintro e w' ⟨a, c, rfl, hr, hb⟩
  refine ⟨a, c, rfl, ?_, hb⟩
  rintro wx rfl
  rw [encMax] at hr
  have h := get_any a c _ 0 wx hr (by decide)
  have e : getI [255, 255, 255, 255, 255, 255, 255, 255, 255, 1] 0 = (18446744073709551615, 10, 0) := by decide +kernel
  rw [e] at h
  exact h
set_option maxRecDepth 20000 in
set_option maxHeartbeats 2000000 in
theorem ends_walk (w : World) : Calls Try.prog 6 #[] w fun e w' => e = .returned (.bool true) ∧ Below w.heap.size w w' := by
  go_enter Try.func6, Try.ntmps6
  go_wp2
  go_loopw [1, 2] (fun v i wr => ∃ n : Nat, 1 ≤ n ∧ n ≤ 10 ∧ i = .int .i64 (n : Int) ∧ v = .int .u64 ((vals n : Nat) : Int) ∧ Below w.heap.size w wr) (fun _ i _ => 10 - (intOf i).toNat)
  case atStart => exact ⟨1, by omega, by omega, rfl, rfl, Below.refl _ _⟩
  case round =>
    obtain ⟨n, hn1, hn2, rfl, rfl, hbel⟩ := hrel
    have HB := hidden hbel
    clear hbel
    by_cases h10 : n < 10
    · obtain ⟨f1, f2, f3, f4⟩ := vals_facts n h10 hn1
      generalize vals n = x at f1 f2 f3 f4
      have P1 := hidden (put_nil x n (by omega) f1)
      have P2 := hidden (put_nil (x + 1) (n + 1) (by omega) f2)
      have hst : IntKind.u64.wrap (IntKind.u64.wrap ((x : Int) * 128) + 127) = ((vals (n + 1) : Nat) : Int) := by
        rw [IntKind.wrap_u64, IntKind.wrap_u64]
        omega
      generalize hX : vals (n + 1) = x2 at hst f4
      have HX := hidden hX
      clear hX f1 f2 f4
      go_wp2_with (go_at_call 8; first | (with_reducible refine (Hid.out P1 _).mono ?_; rintro e w1 ⟨a1, c1, rfl, hr1, hb1⟩; have HB1 := hidden (Below.trans (Hid.out HB) (Below.mono hb1 (Hid.out HB).size)); clear hr1 hb1) | (refine (Hid.out P2 _).mono ?_; rintro e w2 ⟨a2, c2, rfl, hr2, hb2⟩; have HB2 := hidden (Below.trans (Hid.out HB1) (Below.mono hb2 (Hid.out HB1).size)); clear hr2 hb2))
      go_roundw
      case rel => exact ⟨n + 1, by omega, by omega, by go_num, by rw [Hid.out HX], HB2⟩
      case measure => simp [intOf]; omega
    · have hn : 10 = n := by omega
      subst hn
      go_wp2_with (first | (go_at_call 8; refine (putMax _).mono ?_; rintro e w1 ⟨a1, c1, rfl, hg1, hb1⟩; have HG1 := hidden (hg1 _ rfl); have HB1 := hidden (Below.trans (Hid.out HB) (Below.mono hb1 (Hid.out HB).size)); clear hg1 hb1) | (go_at_call 11; (first | (with_reducible refine (Hid.out HG1).mono ?_) | (with_reducible refine (c255 _ _ ?_).mono ?_; exact heap_at _ (by simp)) | (with_reducible refine (c1280 _ _ ?_).mono ?_; exact heap_at _ (by simp)) | (with_reducible refine (c128 _ _ ?_).mono ?_; exact heap_at _ (by simp)) | (with_reducible refine (cNil _).mono ?_)); rintro e w3 ⟨rfl, hww⟩; rw [hww]; clear hww w3) | (go_at_call 7; refine (awake_any _).mono ?_; rintro e w3 ⟨rfl, hb3⟩; have HB3 := hidden hb3; clear hb3))
      have b1 := Hid.out HB1
      have s1 := b1.size
      go_ret
      exact ⟨rfl, (((b1.alloc s1 _).alloc (by simp; omega) _).alloc (by simp; omega) _).trans ((Hid.out HB3).mono (by simp; omega))⟩
end Go.Proofs.Ytokicdmbibbkpaa
