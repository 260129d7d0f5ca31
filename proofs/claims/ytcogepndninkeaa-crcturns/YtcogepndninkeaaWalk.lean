/- CrcTurns, walked. -/
import Derived.Test.YtcogepndninkeaaCalls
import Derived.Test.YtcogepndninkeaaTurn
import Derived.Lib.SlBytesConst
namespace Go.Proofs.Ytcogepndninkeaa
open Go.ChangeShapes Go.WideShapes Go.ChangeAt Go.RowKit
set_option linter.unusedVariables false
theorem sum9 : sumOf 0 [49, 50, 51, 52, 53, 54, 55, 56, 57] = 3421780262 := by decide +kernel
theorem sum0 : sumOf 0 [] = 0 := by decide +kernel
theorem of_awake (l : Option Addr) (n cap : Nat) (w : World) (h : n = 0 ∨ (n = 9 ∧ ∃ g, l = some ⟨g, 0, none⟩ ∧ w.heap[g]? = some (.cells #[.int .u8 49, .int .u8 50, .int .u8 51, .int .u8 52, .int .u8 53, .int .u8 54, .int .u8 55, .int .u8 56, .int .u8 57] 5 (9, 10)))) :
    Calls Try.prog 7 #[.slice l n cap] w fun e w' => e = .returned (.int .u32 (if n = 0 then 0 else 3421780262)) ∧ w' = w := by
  rcases h with rfl | ⟨rfl, g, rfl, hg⟩
  · have h := of_any l cap [] (hidden (by decide)) w (.inl rfl) (by decide)
    rw [sum0] at h
    exact h
  · have h := of_any (some ⟨g, 0, none⟩) cap [49, 50, 51, 52, 53, 54, 55, 56, 57] (hidden (by decide)) w (.inr ⟨g, 0, rfl, fun j hj => by
      rw [cell_of_row _ _ _ _ _ _ hg, Nat.zero_add]
      match j, hj with
      | 0, _ => rfl
      | 1, _ => rfl
      | 2, _ => rfl
      | 3, _ => rfl
      | 4, _ => rfl
      | 5, _ => rfl
      | 6, _ => rfl
      | 7, _ => rfl
      | 8, _ => rfl⟩) (by decide)
    rw [sum9] at h
    exact h
set_option maxHeartbeats 1000000 in
theorem awake_any (w : World) : Calls Try.prog 4 #[] w fun e w' => e = .returned (.bool true) ∧ Below w.heap.size w w' := by
  have hcv : ∀ (w2 : World), (convert 22 22 (.slice (some ⟨w2.heap.size, 0, none⟩) 9 9)).run Try.prog (w2.alloc (.cells #[.int .u8 49, .int .u8 50, .int .u8 51, .int .u8 52, .int .u8 53, .int .u8 54, .int .u8 55, .int .u8 56, .int .u8 57] 5)) = .ok (.slice (some ⟨w2.heap.size, 0, none⟩) 9 9) (w2.alloc (.cells #[.int .u8 49, .int .u8 50, .int .u8 51, .int .u8 52, .int .u8 53, .int .u8 54, .int .u8 55, .int .u8 56, .int .u8 57] 5 (9, 10))) := fun w2 => Lib.run_convert_bytes_const (P := Try.prog) w2 22 5 #[.int .u8 49, .int .u8 50, .int .u8 51, .int .u8 52, .int .u8 53, .int .u8 54, .int .u8 55, .int .u8 56, .int .u8 57] 9 9 Try.underlying22 Try.underlying5
  go_enter Try.func4, Try.ntmps4
  go_wp2_with (go_at_call 7; refine (of_awake _ _ _ _ ?_).mono ?_; first | exact .inl rfl | exact .inr ⟨rfl, _, rfl, heap_alloc_new _ _⟩; rintro e w' ⟨rfl, rfl⟩)
  go_ret
  exact ⟨rfl, (Below.refl _ _).alloc (Nat.le_refl _) _⟩
theorem xor_u8 (y z : Nat) (hy : y < 256) : bits .xor .u8 (y : Int) ((z : Int) % 256) = ((y ^^^ z % 256 : Nat) : Int) := by
  rw [u8_xor _ _ (by omega) (by omega) (by omega) (by omega)]
  congr 1
theorem sums_unlike (ns : List Nat) (hns : ∀ x ∈ ns, x < 256) (q r row : Nat) (hr : r < 8) (h0 : row ≠ 0) (hrow : row < 4294967296) (hl : q + 5 ≤ ns.length) : sumOf 0 (upd ns q (2 ^ r * row) 5) ≠ sumOf 0 ns := by
  have h1 := turned_unlike 4294967295 ns q r row hr h0 hrow hl
  have h2 := Crc.fold_lt ns (c := 4294967295) (by decide) hns
  have h3 := Crc.fold_lt (upd ns q (2 ^ r * row) 5) (c := 4294967295) (by decide) (upd_lt ns q _ hns 5)
  unfold sumOf
  show 4294967295 - Crc.fold 4294967295 _ ≠ 4294967295 - Crc.fold 4294967295 _
  omega
theorem small_walk (a0 : Option Addr) (len0 cap0 : Nat) (a1 a2 : Int) (w : World) (h : len0 < 5 ∨ a2 = 0) :
    Calls Try.prog 3 #[.slice a0 len0 cap0, .int .i64 a1, .int .u32 a2] w fun e w' => e = .returned (.bool true) ∧ Below w.heap.size w w' := by
  by_cases h5 : len0 < 5
  · go_enter Try.func3, Try.ntmps3
    go_wp2_with (go_at_call 4; refine (awake_any _).mono ?_; rintro e w' ⟨rfl, hb⟩)
    go_ret
    exact ⟨rfl, by assumption⟩
  · have h2 : a2 = 0 := by omega
    subst h2
    go_enter Try.func3, Try.ntmps3
    go_wp2_with (go_at_call 4; refine (awake_any _).mono ?_; rintro e w' ⟨rfl, hb⟩)
    go_ret
    exact ⟨rfl, by assumption⟩
set_option maxHeartbeats 2000000 in
theorem turns_walk (b off cap : Nat) (ns : List Nat) (hns : Hid (∀ x ∈ ns, x < 256)) (at_ : Int) (ha1 : -9223372036854775808 ≤ at_) (ha2 : at_ ≤ 9223372036854775807) (row : Nat) (hrow0 : row ≠ 0) (hrow : row < 4294967296) (w : World)
    (hcell : ∀ j, j < ns.length → w.cell? ⟨b, off + j, none⟩ = some (.int .u8 ((ns.getD j 0 : Nat) : Int))) (hlen : ns.length ≤ 140737488351232) (h5 : 5 ≤ ns.length) :
    Calls Try.prog 3 #[.slice (some ⟨b, off, none⟩) ns.length cap, .int .i64 at_, .int .u32 (row : Int)] w fun e w' => e = .returned (.bool true) ∧ Below w.heap.size w w' := by
  have hlt : b < w.heap.size := World.block_lt_of_cell? _ _ (hcell 0 (by omega))
  have HC := hidden hcell
  clear hcell
  have hpos : (0 : Int) < 8 * (ns.length : Int) - 39 := by omega
  obtain ⟨K, hK⟩ : ∃ K : Nat, at_ % (8 * (ns.length : Int) - 39) = (K : Int) := ⟨(at_ % (8 * (ns.length : Int) - 39)).toNat, by have := Int.emod_nonneg at_ (show (8 * (ns.length : Int) - 39) ≠ 0 by omega); omega⟩
  have hK2 : K < 8 * ns.length - 39 := by have := Int.emod_lt_of_pos at_ hpos; omega
  have hrow1 : ((row : Int) == 0) = false := beq_eq_false_iff_ne.2 (by omega)
  obtain ⟨x, hx⟩ : ∃ x : Nat, x = 2 ^ (K % 8) * row := ⟨_, rfl⟩
  have hx39 : x < 1099511627776 := by
    have h1 : 2 ^ (K % 8) ≤ 2 ^ 7 := Nat.pow_le_pow_right (by omega) (by omega)
    have h2 := Nat.mul_le_mul h1 (Nat.le_of_lt hrow)
    rw [← hx] at h2
    omega
  have hw : IntKind.u64.wrap ((row : Int) * 2 ^ (K % 8)) = (x : Int) := by
    rw [IntKind.wrap_u64, hx]
    have : (row : Int) * 2 ^ (K % 8) = ((2 ^ (K % 8) * row : Nat) : Int) := by rw [Nat.mul_comm]; simp
    rw [this, ← hx]
    omega
  have HX := hidden hx
  clear hx
  go_enter Try.func3, Try.ntmps3
  go_wp2_with (first | (go_at_call 5; refine (place_any _ _ hpos (by omega) ha1 ha2 _).mono ?_; rintro e w' ⟨rfl, hww⟩; rw [hK, hww]; clear hww w') | (go_at_call 6; refine (bytes_any b off cap ns (by omega) _ HC hlen).mono ?_; rintro e w1 ⟨g, cap1, rfl, hown, hbel⟩; have HO := hidden hown; have HL := hidden hbel; clear hown hbel))
  go_loopw [10] (fun i wr => ∃ j : Nat, j ≤ 5 ∧ i = .int .i64 (j : Int) ∧ wr.ownsRow w.heap.size 5 1 (.slice (some ⟨g, 0, none⟩) ns.length cap1) ns.length (cellsN (upd ns (K / 8) x j)) ∧ Below w.heap.size w wr) (fun i _ => 5 - (intOf i).toNat)
  case atStart => exact ⟨0, by omega, rfl, HO, HL⟩
  case round =>
    obtain ⟨j, hj, rfl, hown, hbel⟩ := hrel
    have HOr := hidden hown
    have HLr := hidden hbel
    clear hbel HO HL
    by_cases hj5 : j < 5
    · have hq : K / 8 + j < ns.length := by omega
      have hql : K / 8 + j < (upd ns (K / 8) x j).length := by rw [upd_len]; exact hq
      have hc := hown.cellAt (K / 8 + j) (by omega)
      rw [cellsN_get _ _ hql] at hc
      have hf := hown.frozenAt (K / 8 + j)
      have hy8 := below256 (upd_lt ns (K / 8) x hns j) (K / 8 + j)
      clear hown hql
      generalize hy : (upd ns (K / 8) x j).getD (K / 8 + j) 0 = y at hc hy8
      have HY := hidden hy
      clear hy
      have hxor := xor_u8 y (x / 2 ^ (8 * j)) hy8
      rw [show ((x / 2 ^ (8 * j) : Nat) : Int) = (x : Int) / 2 ^ (8 * j) by simp] at hxor
      go_wp2
      go_roundw
      case rel =>
        have HO2 : wr.ownsRow w.heap.size 5 1 (.slice (some ⟨g, 0, none⟩) ns.length cap1) ns.length (cellsN (upd ns (K / 8) x j)) := HOr
        have HY2 : (upd ns (K / 8) x j).getD (K / 8 + j) 0 = y := HY
        have HL2 : Below w.heap.size w wr := HLr
        have hs := HO2.stored (K / 8 + j) (.int .u8 ((y ^^^ x / 2 ^ (8 * j) % 256 : Nat) : Int))
        refine ⟨j + 1, by omega, by go_num, ?_, ?_⟩
        · have e : cellsN (upd ns (K / 8) x (j + 1)) = (cellsN (upd ns (K / 8) x j)).set (K / 8 + j) (.int .u8 ((y ^^^ x / 2 ^ (8 * j) % 256 : Nat) : Int)) := by
            simp only [upd, HY2, cellsN, List.map_set]
          rw [e]
          exact hs.1
        · refine HL2.setCell ?_ _
          rcases HO2.2 with ⟨h, _⟩ | ⟨g', cap', cur, h, hbg, _⟩
          · simp at h
          · simp only [Value.slice.injEq, Option.some.injEq, Addr.mk.injEq, and_true, true_and] at h
            rw [h.1]
            exact hbg
      case measure => simp [intOf]; omega
    · have hj6 : j = 5 := by omega
      subst hj6
      have HX2 : x = 2 ^ (K % 8) * row := HX
      have hun := sums_unlike ns hns (K / 8) (K % 8) row (by omega) hrow0 hrow (by omega)
      rw [← HX2] at hun
      have hul : (upd ns (K / 8) x 5).length = ns.length := upd_len ns (K / 8) x 5
      have HC2 : ∀ j, j < ns.length → w.cell? ⟨b, off + j, none⟩ = some (.int .u8 ((ns.getD j 0 : Nat) : Int)) := HC
      have HL2 : Below w.heap.size w wr := HLr
      have c1 : Calls Try.prog 7 #[.slice (some ⟨g, 0, none⟩) ns.length cap1] wr fun e w' => e = .returned (.int .u32 ((sumOf 0 (upd ns (K / 8) x 5) : Nat) : Int)) ∧ w' = wr := by
        have h := of_any (some ⟨g, 0, none⟩) cap1 (upd ns (K / 8) x 5) (hidden (upd_lt ns (K / 8) x hns 5)) wr (.inr ⟨g, 0, rfl, fun j hj => by
          have hc := hown.cellAt j (by omega)
          rw [cellsN_get _ _ hj] at hc
          rw [Nat.zero_add]
          exact hc⟩) (by omega)
        rw [hul] at h
        exact h
      have c2 : Calls Try.prog 7 #[.slice (some ⟨b, off, none⟩) ns.length cap] wr fun e w' => e = .returned (.int .u32 ((sumOf 0 ns : Nat) : Int)) ∧ w' = wr :=
        of_any (some ⟨b, off, none⟩) cap ns hns wr (.inr ⟨b, off, rfl, fun j hj => (HL2.cell (by exact hlt)).trans (HC2 j hj)⟩) (by omega)
      have hgb : ¬ b = g := by
        rcases hown.2 with ⟨h, _⟩ | ⟨g', cap', cur, h, hbg, _⟩
        · simp at h
        · simp only [Value.slice.injEq, Option.some.injEq, Addr.mk.injEq, and_true, true_and] at h
          omega
      generalize sumOf 0 (upd ns (K / 8) x 5) = S1 at c1 hun
      generalize sumOf 0 ns = S2 at c2 hun
      have c : ∀ bb oo cc, (bb = g ∧ oo = 0 ∧ cc = cap1) ∨ (bb = b ∧ oo = off ∧ cc = cap) → Calls Try.prog 7 #[.slice (some ⟨bb, oo, none⟩) ns.length cc] wr fun e w' => e = .returned (.int .u32 (((if bb = g then S1 else S2) : Nat) : Int)) ∧ w' = wr := by
        rintro bb oo cc (⟨rfl, rfl, rfl⟩ | ⟨rfl, rfl, rfl⟩)
        · rw [if_pos rfl]; exact c1
        · rw [if_neg hgb]; exact c2
      have hne : ((S1 : Int) == (S2 : Int)) = false := beq_eq_false_iff_ne.2 (by omega)
      have C := hidden c
      clear hown c c1 c2 HC2 HL2 hul HX2
      go_wp2_with (first | (go_at_call 7; refine (Hid.out C _ _ _ ?_).mono ?_; first | exact .inl ⟨rfl, rfl, rfl⟩ | exact .inr ⟨rfl, rfl, rfl⟩; rintro e w' ⟨rfl, hww⟩; rw [hww]; clear hww w') | (go_at_call 4; refine (awake_any _).mono ?_; rintro e w' ⟨rfl, hb⟩))
      have HL3 : Below w.heap.size w wr := HLr
      go_ret
      refine ⟨ret_bool (bne_iff_ne.2 (by omega)), HL3.trans (Below.mono (B := wr.heap.size) ?_ HL3.size)⟩
      assumption
end Go.Proofs.Ytcogepndninkeaa
