/- What instructions read. -/
import Derived.Test.YtobnocioefchlaaPMAN
import Derived.Test.YtobnocioefchlaaPMBA
import Derived.Test.YtobnocioefchlaaPMAR
namespace Go.Proofs.Ytobnocioefchlaa
open Go.ChangeShapes Go.WideShapes Go.ChangeAt Go.RowKit
set_option linter.unusedVariables false
/-- A byte of a memory, as a number; two of them. -/
def byteN (s : MS) (a : Nat) : Nat := (s.get a).toNat
def halfN (s : MS) (a : Nat) : Nat := byteN s a * 256 + byteN s (wrapAt a 1)
theorem byteN_lt (s : MS) (a : Nat) : byteN s a < 256 := (s.get a).toNat_lt
theorem halfN_lt (s : MS) (a : Nat) : halfN s a < 65536 := by
  have h1 := byteN_lt s a
  have h2 := byteN_lt s (wrapAt a 1)
  unfold halfN
  omega
theorem wordN_lt (s : MS) (a : Nat) : preW s a 4 < 4294967296 := preW_lt s a 4
theorem or_low16 (x y : Nat) (hx : x < 256) (hy : y < 256) : bits .or .u16 ((x : Int) * 256) (y : Int) = ((x * 256 + y : Nat) : Int) := by
  have h : x * 256 ||| y = x * 256 + y := by
    have := Nat.two_pow_add_eq_or_of_lt (i := 8) (b := y) (by omega) x
    rw [show 2 ^ 8 * x = x * 256 by omega] at this
    exact this.symm
  have e1 : (BitVec.ofInt 16 ((x : Int) * 256)).toNat = x * 256 := by
    rw [show (x : Int) * 256 = ((x * 256 : Nat) : Int) by omega, BitVec.ofInt_natCast, BitVec.toNat_ofNat]
    omega
  have e2 : (BitVec.ofInt 16 (y : Int)).toNat = y := by
    rw [BitVec.ofInt_natCast, BitVec.toNat_ofNat]
    omega
  show IntKind.u16.wrap ((BitVec.ofInt 16 ((x : Int) * 256) ||| BitVec.ofInt 16 (y : Int)).toNat : Nat) = _
  rw [BitVec.toNat_or, e1, e2, h]
  show (((x * 256 + y : Nat) : Int)) % 65536 = _
  omega
set_option maxRecDepth 20000 in
theorem half_any (w : World) (s : MS) (h : MemW w s) (a : Nat) (ha : a < 4294967296) : Calls Try.prog 75 #[.pointer (some ⟨s.mb, 0, none⟩), .int .u32 (a : Int)] w fun e w' => e = .returned (.int .u16 (halfN s a : Int)) ∧ ∃ n, w' = w.drewN n := by
  have HP := hidden (peek_any w s a h ha)
  have HQ := hidden (fun m => peek_any (w.drewN m) s (wrapAt a 1) (h.drewN m) (wrapAt_lt a 1))
  have b1 := byteN_lt s a
  have b2 := byteN_lt s (wrapAt a 1)
  have hor := or_low16 _ _ b1 b2
  have ew : ((a : Int) + 1) % 4294967296 = ((wrapAt a 1 : Nat) : Int) := by unfold wrapAt; omega
  rw [show halfN s a = byteN s a * 256 + byteN s (wrapAt a 1) from rfl]
  change Hid (Calls Try.prog 64 _ w fun e w' => e = .returned (.int .u8 (byteN s a : Int)) ∧ _) at HP
  change Hid (∀ m, Calls Try.prog 64 _ (w.drewN m) fun e w' => e = .returned (.int .u8 (byteN s (wrapAt a 1) : Int)) ∧ _) at HQ
  generalize byteN s a = x at *
  generalize byteN s (wrapAt a 1) = y at *
  generalize wrapAt a 1 = q at *
  clear h
  go_enter Try.func75, Try.ntmps75
  go_wp2_with (first | (go_at_call 64; refine HP.out.mono ?_; rintro e w1 ⟨rfl, n, hww⟩; rw [hww]; clear hww w1; clear HP) | (go_at_call 64; refine (HQ.out _).mono ?_; rintro e w2 ⟨rfl, n2, hww2⟩; rw [hww2]; clear hww2 w2))
  go_ret
  exact ⟨ret_int (by omega), n + n2, rfl⟩
/-- A word of which the lowest bytes are another one's; of which the highest are. -/
def lwlN (k w old : Nat) : Nat := w * 2 ^ (8 * k) % 4294967296 + old % 2 ^ (8 * k)
def lwrN (k w old : Nat) : Nat := w / 2 ^ (24 - 8 * k) + old / 2 ^ (8 * k + 8) * 2 ^ (8 * k + 8)
/-- What an instruction reads. -/
def loadN (s : MS) (op : Int) (a old : Nat) : Nat :=
  if op = 48 then (if byteN s a < 128 then byteN s a else byteN s a + 4294967040)
  else if op = 52 then byteN s a
  else if op = 49 then (if halfN s a < 32768 then halfN s a else halfN s a + 4294901760)
  else if op = 53 then halfN s a
  else if op = 51 then preW s a 4
  else if op = 50 then lwlN (a % 4) (preW s (a - a % 4) 4) old
  else if op = 54 then lwrN (a % 4) (preW s (a - a % 4) 4) old
  else old
theorem sx8 {x r : Nat} (h : x < 256) (hr : r = (if x < 128 then x else x + 4294967040)) : IntKind.i8.wrap (x : Int) % 4294967296 = (r : Int) := by
  have e : IntKind.i8.wrap (x : Int) = if (x : Int) < 128 then (x : Int) else (x : Int) - 256 := by
    unfold IntKind.wrap
    simp [IntKind.bits, IntKind.signed]
    split <;> split <;> omega
  rw [e, hr]
  split <;> split <;> omega
theorem sx16 {x r : Nat} (h : x < 65536) (hr : r = (if x < 32768 then x else x + 4294901760)) : IntKind.i16.wrap (x : Int) % 4294967296 = (r : Int) := by
  have e : IntKind.i16.wrap (x : Int) = if (x : Int) < 32768 then (x : Int) else (x : Int) - 65536 := by
    unfold IntKind.wrap
    simp [IntKind.bits, IntKind.signed]
    split <;> split <;> omega
  rw [e, hr]
  split <;> split <;> omega
theorem or_sum (j w y : Nat) (hy : y < 2 ^ j) : 2 ^ j * w ||| y = 2 ^ j * w + y := (Nat.two_pow_add_eq_or_of_lt hy w).symm
theorem low_mask (x j : Nat) : x &&& (2 ^ j - 1) = x % 2 ^ j := Nat.and_two_pow_sub_one_eq_mod x j
theorem high_mask (x j : Nat) (hj : j ≤ 32) (hx : x < 4294967296) : x &&& (4294967296 - 2 ^ j) = x / 2 ^ j * 2 ^ j := by
  have e : 4294967296 - 2 ^ j = 2 ^ j * (2 ^ (32 - j) - 1) := by
    have : (4294967296 : Nat) = 2 ^ j * 2 ^ (32 - j) := by rw [← Nat.pow_add, show j + (32 - j) = 32 by omega]
    rw [Nat.mul_sub, ← this, Nat.mul_one]
  rw [e, Nat.mul_comm (x / 2 ^ j)]
  apply Nat.eq_of_testBit_eq
  intro i
  rw [Nat.testBit_and, Nat.testBit_two_pow_mul, Nat.testBit_two_pow_mul, Nat.testBit_div_two_pow, Nat.testBit_two_pow_sub_one]
  by_cases h1 : i ≥ j
  · rw [decide_eq_true h1, Bool.true_and, Bool.true_and, show i - j + j = i by omega]
    by_cases h2 : i < 32
    · rw [decide_eq_true (show i - j < 32 - j by omega), Bool.and_true]
    · rw [Nat.testBit_lt_two_pow (Nat.lt_of_lt_of_le hx (show 4294967296 ≤ 2 ^ i from Nat.pow_le_pow_right (n := 2) (by omega) (show 32 ≤ i by omega)))]
      rfl
  · rw [decide_eq_false h1, Bool.false_and, Bool.false_and, Bool.and_false]
theorem code_lwl0 (w old : Nat) (hw : w < 4294967296) (ho : old < 4294967296) : bits .or .u32 (((w * 1 % 4294967296 : Nat)) : Int) (bits .andNot .u32 (old : Int) 4294967295) = ((lwlN 0 w old : Nat) : Int) := by
  have e1 := u32_andNot_nat old 4294967295 ho (by omega)
  rw [show 4294967295 - 4294967295 = 2 ^ 0 - 1 by decide, low_mask] at e1
  rw [show ((4294967295 : Nat) : Int) = 4294967295 from rfl] at e1
  have hm : old % 2 ^ 0 < 2 ^ 0 := Nat.mod_lt _ (by decide)
  rw [e1, u32_or_nat _ _ (Nat.mod_lt _ (by omega)) (Nat.lt_of_lt_of_le hm (by decide))]
  have e2 : w * 1 % 4294967296 = 2 ^ 0 * (w % 2 ^ 32) := by
    rw [show (4294967296 : Nat) = 2 ^ 0 * 2 ^ 32 by decide, Nat.mul_comm w, show (1 : Nat) = 2 ^ 0 by decide, Nat.mul_mod_mul_left]
  rw [e2, or_sum _ _ _ hm, ← e2]
  rfl
theorem code_lwl1 (w old : Nat) (hw : w < 4294967296) (ho : old < 4294967296) : bits .or .u32 (((w * 256 % 4294967296 : Nat)) : Int) (bits .andNot .u32 (old : Int) 4294967040) = ((lwlN 1 w old : Nat) : Int) := by
  have e1 := u32_andNot_nat old 4294967040 ho (by omega)
  rw [show 4294967295 - 4294967040 = 2 ^ 8 - 1 by decide, low_mask] at e1
  rw [show ((4294967040 : Nat) : Int) = 4294967040 from rfl] at e1
  have hm : old % 2 ^ 8 < 2 ^ 8 := Nat.mod_lt _ (by decide)
  rw [e1, u32_or_nat _ _ (Nat.mod_lt _ (by omega)) (Nat.lt_of_lt_of_le hm (by decide))]
  have e2 : w * 256 % 4294967296 = 2 ^ 8 * (w % 2 ^ 24) := by
    rw [show (4294967296 : Nat) = 2 ^ 8 * 2 ^ 24 by decide, Nat.mul_comm w, show (256 : Nat) = 2 ^ 8 by decide, Nat.mul_mod_mul_left]
  rw [e2, or_sum _ _ _ hm, ← e2]
  rfl
theorem code_lwl2 (w old : Nat) (hw : w < 4294967296) (ho : old < 4294967296) : bits .or .u32 (((w * 65536 % 4294967296 : Nat)) : Int) (bits .andNot .u32 (old : Int) 4294901760) = ((lwlN 2 w old : Nat) : Int) := by
  have e1 := u32_andNot_nat old 4294901760 ho (by omega)
  rw [show 4294967295 - 4294901760 = 2 ^ 16 - 1 by decide, low_mask] at e1
  rw [show ((4294901760 : Nat) : Int) = 4294901760 from rfl] at e1
  have hm : old % 2 ^ 16 < 2 ^ 16 := Nat.mod_lt _ (by decide)
  rw [e1, u32_or_nat _ _ (Nat.mod_lt _ (by omega)) (Nat.lt_of_lt_of_le hm (by decide))]
  have e2 : w * 65536 % 4294967296 = 2 ^ 16 * (w % 2 ^ 16) := by
    rw [show (4294967296 : Nat) = 2 ^ 16 * 2 ^ 16 by decide, Nat.mul_comm w, show (65536 : Nat) = 2 ^ 16 by decide, Nat.mul_mod_mul_left]
  rw [e2, or_sum _ _ _ hm, ← e2]
  rfl
theorem code_lwl3 (w old : Nat) (hw : w < 4294967296) (ho : old < 4294967296) : bits .or .u32 (((w * 16777216 % 4294967296 : Nat)) : Int) (bits .andNot .u32 (old : Int) 4278190080) = ((lwlN 3 w old : Nat) : Int) := by
  have e1 := u32_andNot_nat old 4278190080 ho (by omega)
  rw [show 4294967295 - 4278190080 = 2 ^ 24 - 1 by decide, low_mask] at e1
  rw [show ((4278190080 : Nat) : Int) = 4278190080 from rfl] at e1
  have hm : old % 2 ^ 24 < 2 ^ 24 := Nat.mod_lt _ (by decide)
  rw [e1, u32_or_nat _ _ (Nat.mod_lt _ (by omega)) (Nat.lt_of_lt_of_le hm (by decide))]
  have e2 : w * 16777216 % 4294967296 = 2 ^ 24 * (w % 2 ^ 8) := by
    rw [show (4294967296 : Nat) = 2 ^ 24 * 2 ^ 8 by decide, Nat.mul_comm w, show (16777216 : Nat) = 2 ^ 24 by decide, Nat.mul_mod_mul_left]
  rw [e2, or_sum _ _ _ hm, ← e2]
  rfl
theorem code_lwr0 (w old : Nat) (hw : w < 4294967296) (ho : old < 4294967296) : bits .or .u32 (((w / 16777216 : Nat)) : Int) (bits .andNot .u32 (old : Int) 255) = ((lwrN 0 w old : Nat) : Int) := by
  have e1 := u32_andNot_nat old 255 ho (by omega)
  rw [show 4294967295 - 255 = 4294967296 - 2 ^ 8 by decide, high_mask _ _ (by omega) ho] at e1
  rw [show ((255 : Nat) : Int) = 255 from rfl] at e1
  have hm : w / 16777216 < 2 ^ 8 := by omega
  have hh : old / 2 ^ 8 * 2 ^ 8 < 4294967296 := Nat.lt_of_le_of_lt (Nat.div_mul_le_self _ _) ho
  rw [e1, u32_or_nat _ _ (Nat.lt_of_lt_of_le hm (by decide)) hh]
  rw [Nat.or_comm, Nat.mul_comm, or_sum _ _ _ hm, Nat.add_comm, Nat.mul_comm]
  rfl
theorem code_lwr1 (w old : Nat) (hw : w < 4294967296) (ho : old < 4294967296) : bits .or .u32 (((w / 65536 : Nat)) : Int) (bits .andNot .u32 (old : Int) 65535) = ((lwrN 1 w old : Nat) : Int) := by
  have e1 := u32_andNot_nat old 65535 ho (by omega)
  rw [show 4294967295 - 65535 = 4294967296 - 2 ^ 16 by decide, high_mask _ _ (by omega) ho] at e1
  rw [show ((65535 : Nat) : Int) = 65535 from rfl] at e1
  have hm : w / 65536 < 2 ^ 16 := by omega
  have hh : old / 2 ^ 16 * 2 ^ 16 < 4294967296 := Nat.lt_of_le_of_lt (Nat.div_mul_le_self _ _) ho
  rw [e1, u32_or_nat _ _ (Nat.lt_of_lt_of_le hm (by decide)) hh]
  rw [Nat.or_comm, Nat.mul_comm, or_sum _ _ _ hm, Nat.add_comm, Nat.mul_comm]
  rfl
theorem code_lwr2 (w old : Nat) (hw : w < 4294967296) (ho : old < 4294967296) : bits .or .u32 (((w / 256 : Nat)) : Int) (bits .andNot .u32 (old : Int) 16777215) = ((lwrN 2 w old : Nat) : Int) := by
  have e1 := u32_andNot_nat old 16777215 ho (by omega)
  rw [show 4294967295 - 16777215 = 4294967296 - 2 ^ 24 by decide, high_mask _ _ (by omega) ho] at e1
  rw [show ((16777215 : Nat) : Int) = 16777215 from rfl] at e1
  have hm : w / 256 < 2 ^ 24 := by omega
  have hh : old / 2 ^ 24 * 2 ^ 24 < 4294967296 := Nat.lt_of_le_of_lt (Nat.div_mul_le_self _ _) ho
  rw [e1, u32_or_nat _ _ (Nat.lt_of_lt_of_le hm (by decide)) hh]
  rw [Nat.or_comm, Nat.mul_comm, or_sum _ _ _ hm, Nat.add_comm, Nat.mul_comm]
  rfl
theorem code_lwr3 (w old : Nat) (hw : w < 4294967296) (ho : old < 4294967296) : bits .or .u32 (((w / 1 : Nat)) : Int) (bits .andNot .u32 (old : Int) 4294967295) = ((lwrN 3 w old : Nat) : Int) := by
  have e1 := u32_andNot_nat old 4294967295 ho (by omega)
  rw [show 4294967295 - 4294967295 = 4294967296 - 2 ^ 32 by decide, high_mask _ _ (by omega) ho] at e1
  rw [show ((4294967295 : Nat) : Int) = 4294967295 from rfl] at e1
  have hm : w / 1 < 2 ^ 32 := by omega
  have hh : old / 2 ^ 32 * 2 ^ 32 < 4294967296 := Nat.lt_of_le_of_lt (Nat.div_mul_le_self _ _) ho
  rw [e1, u32_or_nat _ _ (Nat.lt_of_lt_of_le hm (by decide)) hh]
  rw [Nat.or_comm, Nat.mul_comm, or_sum _ _ _ hm, Nat.add_comm, Nat.mul_comm]
  rfl
set_option maxRecDepth 20000 in
theorem load_52 (w : World) (s : MS) (h : MemW w s) (S T D A imm : Int) (a old : Nat) (ha : a < 4294967296) (ho : old < 4294967296) : Calls Try.prog 51 #[.pointer (some ⟨s.mb, 0, none⟩), .agg (insC 52 S T D A imm), .int .u32 (a : Int), .int .u32 (old : Int)] w fun e w' => e = .returned (.int .u32 (loadN s 52 a old : Int)) ∧ Below w.heap.size w w' := by
  have hB := hidden (below_new w (.cells (insC 52 S T D A imm) 62))
  have HM := hidden (h.alloc (.cells (insC 52 S T D A imm) 62))
  have HW := hidden (peek_any _ s a HM.out ha)
  rw [show loadN s 52 a old = byteN s a from rfl]
  have b1 := byteN_lt s a
  change Hid (Calls Try.prog 64 _ _ fun e w' => e = .returned (.int .u8 (byteN s a : Int)) ∧ _) at HW
  generalize byteN s a = x at *
  clear h
  go_enter Try.func51, Try.ntmps51
  go_wp2_with (go_at_call 64; refine HW.out.mono ?_; rintro e w2 ⟨rfl, n2, hww2⟩; rw [hww2]; clear hww2 w2)
  go_ret
  exact ⟨ret_int (by omega), below_drewN hB.out n2⟩
set_option maxRecDepth 20000 in
theorem load_53 (w : World) (s : MS) (h : MemW w s) (S T D A imm : Int) (a old : Nat) (ha : a < 4294967296) (ho : old < 4294967296) : Calls Try.prog 51 #[.pointer (some ⟨s.mb, 0, none⟩), .agg (insC 53 S T D A imm), .int .u32 (a : Int), .int .u32 (old : Int)] w fun e w' => e = .returned (.int .u32 (loadN s 53 a old : Int)) ∧ Below w.heap.size w w' := by
  have hB := hidden (below_new w (.cells (insC 53 S T D A imm) 62))
  have HM := hidden (h.alloc (.cells (insC 53 S T D A imm) 62))
  have HW := hidden (half_any _ s HM.out a ha)
  rw [show loadN s 53 a old = halfN s a from rfl]
  have b1 := halfN_lt s a
  generalize halfN s a = x at *
  clear h
  go_enter Try.func51, Try.ntmps51
  go_wp2_with (go_at_call 75; refine HW.out.mono ?_; rintro e w2 ⟨rfl, n2, hww2⟩; rw [hww2]; clear hww2 w2)
  go_ret
  exact ⟨ret_int (by omega), below_drewN hB.out n2⟩
set_option maxRecDepth 20000 in
theorem load_51 (w : World) (s : MS) (h : MemW w s) (S T D A imm : Int) (a old : Nat) (ha : a < 4294967296) (ho : old < 4294967296) : Calls Try.prog 51 #[.pointer (some ⟨s.mb, 0, none⟩), .agg (insC 51 S T D A imm), .int .u32 (a : Int), .int .u32 (old : Int)] w fun e w' => e = .returned (.int .u32 (loadN s 51 a old : Int)) ∧ Below w.heap.size w w' := by
  have hB := hidden (below_new w (.cells (insC 51 S T D A imm) 62))
  have HM := hidden (h.alloc (.cells (insC 51 S T D A imm) 62))
  have HW := hidden (word_any _ s a HM.out ha)
  rw [show loadN s 51 a old = preW s a 4 from rfl]
  clear h
  go_enter Try.func51, Try.ntmps51
  go_wp2_with (go_at_call 40; refine HW.out.mono ?_; rintro e w2 ⟨rfl, n2, hww2⟩; rw [hww2]; clear hww2 w2)
  go_ret
  exact ⟨rfl, below_drewN hB.out n2⟩
set_option maxRecDepth 20000 in
theorem load_48 (w : World) (s : MS) (h : MemW w s) (S T D A imm : Int) (a old : Nat) (ha : a < 4294967296) (ho : old < 4294967296) : Calls Try.prog 51 #[.pointer (some ⟨s.mb, 0, none⟩), .agg (insC 48 S T D A imm), .int .u32 (a : Int), .int .u32 (old : Int)] w fun e w' => e = .returned (.int .u32 (loadN s 48 a old : Int)) ∧ Below w.heap.size w w' := by
  have hB := hidden (below_new w (.cells (insC 48 S T D A imm) 62))
  have HM := hidden (h.alloc (.cells (insC 48 S T D A imm) 62))
  have HW := hidden (peek_any _ s a HM.out ha)
  rw [show loadN s 48 a old = (if byteN s a < 128 then byteN s a else byteN s a + 4294967040) from rfl]
  have b1 := byteN_lt s a
  change Hid (Calls Try.prog 64 _ _ fun e w' => e = .returned (.int .u8 (byteN s a : Int)) ∧ _) at HW
  generalize byteN s a = x at *
  obtain ⟨r, hr0⟩ : ∃ r, r = (if x < 128 then x else x + 4294967040) := ⟨_, rfl⟩
  rw [← hr0]
  have hr := hidden hr0
  clear hr0
  clear h
  go_enter Try.func51, Try.ntmps51
  go_wp2_with (go_at_call 64; refine HW.out.mono ?_; rintro e w2 ⟨rfl, n2, hww2⟩; rw [hww2]; clear hww2 w2)
  go_ret
  exact ⟨ret_int (sx8 b1 hr.out), below_drewN hB.out n2⟩
set_option maxRecDepth 20000 in
theorem load_49 (w : World) (s : MS) (h : MemW w s) (S T D A imm : Int) (a old : Nat) (ha : a < 4294967296) (ho : old < 4294967296) : Calls Try.prog 51 #[.pointer (some ⟨s.mb, 0, none⟩), .agg (insC 49 S T D A imm), .int .u32 (a : Int), .int .u32 (old : Int)] w fun e w' => e = .returned (.int .u32 (loadN s 49 a old : Int)) ∧ Below w.heap.size w w' := by
  have hB := hidden (below_new w (.cells (insC 49 S T D A imm) 62))
  have HM := hidden (h.alloc (.cells (insC 49 S T D A imm) 62))
  have HW := hidden (half_any _ s HM.out a ha)
  rw [show loadN s 49 a old = (if halfN s a < 32768 then halfN s a else halfN s a + 4294901760) from rfl]
  have b1 := halfN_lt s a
  generalize halfN s a = x at *
  obtain ⟨r, hr0⟩ : ∃ r, r = (if x < 32768 then x else x + 4294901760) := ⟨_, rfl⟩
  rw [← hr0]
  have hr := hidden hr0
  clear hr0
  clear h
  go_enter Try.func51, Try.ntmps51
  go_wp2_with (go_at_call 75; refine HW.out.mono ?_; rintro e w2 ⟨rfl, n2, hww2⟩; rw [hww2]; clear hww2 w2)
  go_ret
  exact ⟨ret_int (sx16 b1 hr.out), below_drewN hB.out n2⟩
set_option maxRecDepth 20000 in
theorem load_lwl0 (w : World) (s : MS) (h : MemW w s) (S T D A imm : Int) (q old : Nat) (ha : 4 * q + 0 < 4294967296) (ho : old < 4294967296) : Calls Try.prog 51 #[.pointer (some ⟨s.mb, 0, none⟩), .agg (insC 50 S T D A imm), .int .u32 ((4 * q + 0 : Nat) : Int), .int .u32 (old : Int)] w fun e w' => e = .returned (.int .u32 (lwlN 0 (preW s (4 * q) 4) old : Int)) ∧ Below w.heap.size w w' := by
  have hB := hidden (below_new w (.cells (insC 50 S T D A imm) 62))
  have HM := hidden (h.alloc (.cells (insC 50 S T D A imm) 62))
  have e1 : ((4 * q + 0 : Nat) : Int) % 4 = 0 := by omega
  have e2 : ((4 * q + 0 : Nat) : Int) - 0 = ((4 * q : Nat) : Int) := by omega
  have HW := hidden (word_any _ s (4 * q) HM.out (by omega))
  have hw := wordN_lt s (4 * q)
  have hc := code_lwl0 (preW s (4 * q) 4) old hw ho
  rw [Nat.mul_one, Nat.mod_eq_of_lt hw] at hc
  generalize preW s (4 * q) 4 = x at *
  obtain ⟨a, hq⟩ : ∃ a, a = 4 * q + 0 := ⟨_, rfl⟩
  rw [← hq] at ha e1 e2 ⊢
  obtain ⟨p, hp⟩ : ∃ p, p = 4 * q := ⟨_, rfl⟩
  rw [← hp] at e2 HW
  clear h hq hp
  go_enter Try.func51, Try.ntmps51
  go_wp2_with (go_at_call 40; refine HW.out.mono ?_; rintro e w2 ⟨rfl, n2, hww2⟩; rw [hww2]; clear hww2 w2)
  go_ret
  exact ⟨ret_int rfl, below_drewN hB.out n2⟩
set_option maxRecDepth 20000 in
theorem load_lwl1 (w : World) (s : MS) (h : MemW w s) (S T D A imm : Int) (q old : Nat) (ha : 4 * q + 1 < 4294967296) (ho : old < 4294967296) : Calls Try.prog 51 #[.pointer (some ⟨s.mb, 0, none⟩), .agg (insC 50 S T D A imm), .int .u32 ((4 * q + 1 : Nat) : Int), .int .u32 (old : Int)] w fun e w' => e = .returned (.int .u32 (lwlN 1 (preW s (4 * q) 4) old : Int)) ∧ Below w.heap.size w w' := by
  have hB := hidden (below_new w (.cells (insC 50 S T D A imm) 62))
  have HM := hidden (h.alloc (.cells (insC 50 S T D A imm) 62))
  have e1 : ((4 * q + 1 : Nat) : Int) % 4 = 1 := by omega
  have e2 : ((4 * q + 1 : Nat) : Int) - 1 = ((4 * q : Nat) : Int) := by omega
  have HW := hidden (word_any _ s (4 * q) HM.out (by omega))
  have hw := wordN_lt s (4 * q)
  have hc := code_lwl1 (preW s (4 * q) 4) old hw ho
  generalize preW s (4 * q) 4 = x at *
  obtain ⟨a, hq⟩ : ∃ a, a = 4 * q + 1 := ⟨_, rfl⟩
  rw [← hq] at ha e1 e2 ⊢
  obtain ⟨p, hp⟩ : ∃ p, p = 4 * q := ⟨_, rfl⟩
  rw [← hp] at e2 HW
  clear h hq hp
  go_enter Try.func51, Try.ntmps51
  go_wp2_with (go_at_call 40; refine HW.out.mono ?_; rintro e w2 ⟨rfl, n2, hww2⟩; rw [hww2]; clear hww2 w2)
  go_ret
  exact ⟨ret_int hc, below_drewN hB.out n2⟩
set_option maxRecDepth 20000 in
theorem load_lwl2 (w : World) (s : MS) (h : MemW w s) (S T D A imm : Int) (q old : Nat) (ha : 4 * q + 2 < 4294967296) (ho : old < 4294967296) : Calls Try.prog 51 #[.pointer (some ⟨s.mb, 0, none⟩), .agg (insC 50 S T D A imm), .int .u32 ((4 * q + 2 : Nat) : Int), .int .u32 (old : Int)] w fun e w' => e = .returned (.int .u32 (lwlN 2 (preW s (4 * q) 4) old : Int)) ∧ Below w.heap.size w w' := by
  have hB := hidden (below_new w (.cells (insC 50 S T D A imm) 62))
  have HM := hidden (h.alloc (.cells (insC 50 S T D A imm) 62))
  have e1 : ((4 * q + 2 : Nat) : Int) % 4 = 2 := by omega
  have e2 : ((4 * q + 2 : Nat) : Int) - 2 = ((4 * q : Nat) : Int) := by omega
  have HW := hidden (word_any _ s (4 * q) HM.out (by omega))
  have hw := wordN_lt s (4 * q)
  have hc := code_lwl2 (preW s (4 * q) 4) old hw ho
  generalize preW s (4 * q) 4 = x at *
  obtain ⟨a, hq⟩ : ∃ a, a = 4 * q + 2 := ⟨_, rfl⟩
  rw [← hq] at ha e1 e2 ⊢
  obtain ⟨p, hp⟩ : ∃ p, p = 4 * q := ⟨_, rfl⟩
  rw [← hp] at e2 HW
  clear h hq hp
  go_enter Try.func51, Try.ntmps51
  go_wp2_with (go_at_call 40; refine HW.out.mono ?_; rintro e w2 ⟨rfl, n2, hww2⟩; rw [hww2]; clear hww2 w2)
  go_ret
  exact ⟨ret_int hc, below_drewN hB.out n2⟩
set_option maxRecDepth 20000 in
theorem load_lwl3 (w : World) (s : MS) (h : MemW w s) (S T D A imm : Int) (q old : Nat) (ha : 4 * q + 3 < 4294967296) (ho : old < 4294967296) : Calls Try.prog 51 #[.pointer (some ⟨s.mb, 0, none⟩), .agg (insC 50 S T D A imm), .int .u32 ((4 * q + 3 : Nat) : Int), .int .u32 (old : Int)] w fun e w' => e = .returned (.int .u32 (lwlN 3 (preW s (4 * q) 4) old : Int)) ∧ Below w.heap.size w w' := by
  have hB := hidden (below_new w (.cells (insC 50 S T D A imm) 62))
  have HM := hidden (h.alloc (.cells (insC 50 S T D A imm) 62))
  have e1 : ((4 * q + 3 : Nat) : Int) % 4 = 3 := by omega
  have e2 : ((4 * q + 3 : Nat) : Int) - 3 = ((4 * q : Nat) : Int) := by omega
  have HW := hidden (word_any _ s (4 * q) HM.out (by omega))
  have hw := wordN_lt s (4 * q)
  have hc := code_lwl3 (preW s (4 * q) 4) old hw ho
  generalize preW s (4 * q) 4 = x at *
  obtain ⟨a, hq⟩ : ∃ a, a = 4 * q + 3 := ⟨_, rfl⟩
  rw [← hq] at ha e1 e2 ⊢
  obtain ⟨p, hp⟩ : ∃ p, p = 4 * q := ⟨_, rfl⟩
  rw [← hp] at e2 HW
  clear h hq hp
  go_enter Try.func51, Try.ntmps51
  go_wp2_with (go_at_call 40; refine HW.out.mono ?_; rintro e w2 ⟨rfl, n2, hww2⟩; rw [hww2]; clear hww2 w2)
  go_ret
  exact ⟨ret_int hc, below_drewN hB.out n2⟩
set_option maxRecDepth 20000 in
theorem load_lwr0 (w : World) (s : MS) (h : MemW w s) (S T D A imm : Int) (q old : Nat) (ha : 4 * q + 0 < 4294967296) (ho : old < 4294967296) : Calls Try.prog 51 #[.pointer (some ⟨s.mb, 0, none⟩), .agg (insC 54 S T D A imm), .int .u32 ((4 * q + 0 : Nat) : Int), .int .u32 (old : Int)] w fun e w' => e = .returned (.int .u32 (lwrN 0 (preW s (4 * q) 4) old : Int)) ∧ Below w.heap.size w w' := by
  have hB := hidden (below_new w (.cells (insC 54 S T D A imm) 62))
  have HM := hidden (h.alloc (.cells (insC 54 S T D A imm) 62))
  have e1 : ((4 * q + 0 : Nat) : Int) % 4 = 0 := by omega
  have e2 : ((4 * q + 0 : Nat) : Int) - 0 = ((4 * q : Nat) : Int) := by omega
  have HW := hidden (word_any _ s (4 * q) HM.out (by omega))
  have hw := wordN_lt s (4 * q)
  have hc := code_lwr0 (preW s (4 * q) 4) old hw ho
  generalize preW s (4 * q) 4 = x at *
  obtain ⟨a, hq⟩ : ∃ a, a = 4 * q + 0 := ⟨_, rfl⟩
  rw [← hq] at ha e1 e2 ⊢
  obtain ⟨p, hp⟩ : ∃ p, p = 4 * q := ⟨_, rfl⟩
  rw [← hp] at e2 HW
  clear h hq hp
  go_enter Try.func51, Try.ntmps51
  go_wp2_with (go_at_call 40; refine HW.out.mono ?_; rintro e w2 ⟨rfl, n2, hww2⟩; rw [hww2]; clear hww2 w2)
  go_ret
  exact ⟨ret_int hc, below_drewN hB.out n2⟩
set_option maxRecDepth 20000 in
theorem load_lwr1 (w : World) (s : MS) (h : MemW w s) (S T D A imm : Int) (q old : Nat) (ha : 4 * q + 1 < 4294967296) (ho : old < 4294967296) : Calls Try.prog 51 #[.pointer (some ⟨s.mb, 0, none⟩), .agg (insC 54 S T D A imm), .int .u32 ((4 * q + 1 : Nat) : Int), .int .u32 (old : Int)] w fun e w' => e = .returned (.int .u32 (lwrN 1 (preW s (4 * q) 4) old : Int)) ∧ Below w.heap.size w w' := by
  have hB := hidden (below_new w (.cells (insC 54 S T D A imm) 62))
  have HM := hidden (h.alloc (.cells (insC 54 S T D A imm) 62))
  have e1 : ((4 * q + 1 : Nat) : Int) % 4 = 1 := by omega
  have e2 : ((4 * q + 1 : Nat) : Int) - 1 = ((4 * q : Nat) : Int) := by omega
  have HW := hidden (word_any _ s (4 * q) HM.out (by omega))
  have hw := wordN_lt s (4 * q)
  have hc := code_lwr1 (preW s (4 * q) 4) old hw ho
  generalize preW s (4 * q) 4 = x at *
  obtain ⟨a, hq⟩ : ∃ a, a = 4 * q + 1 := ⟨_, rfl⟩
  rw [← hq] at ha e1 e2 ⊢
  obtain ⟨p, hp⟩ : ∃ p, p = 4 * q := ⟨_, rfl⟩
  rw [← hp] at e2 HW
  clear h hq hp
  go_enter Try.func51, Try.ntmps51
  go_wp2_with (go_at_call 40; refine HW.out.mono ?_; rintro e w2 ⟨rfl, n2, hww2⟩; rw [hww2]; clear hww2 w2)
  go_ret
  exact ⟨ret_int hc, below_drewN hB.out n2⟩
set_option maxRecDepth 20000 in
theorem load_lwr2 (w : World) (s : MS) (h : MemW w s) (S T D A imm : Int) (q old : Nat) (ha : 4 * q + 2 < 4294967296) (ho : old < 4294967296) : Calls Try.prog 51 #[.pointer (some ⟨s.mb, 0, none⟩), .agg (insC 54 S T D A imm), .int .u32 ((4 * q + 2 : Nat) : Int), .int .u32 (old : Int)] w fun e w' => e = .returned (.int .u32 (lwrN 2 (preW s (4 * q) 4) old : Int)) ∧ Below w.heap.size w w' := by
  have hB := hidden (below_new w (.cells (insC 54 S T D A imm) 62))
  have HM := hidden (h.alloc (.cells (insC 54 S T D A imm) 62))
  have e1 : ((4 * q + 2 : Nat) : Int) % 4 = 2 := by omega
  have e2 : ((4 * q + 2 : Nat) : Int) - 2 = ((4 * q : Nat) : Int) := by omega
  have HW := hidden (word_any _ s (4 * q) HM.out (by omega))
  have hw := wordN_lt s (4 * q)
  have hc := code_lwr2 (preW s (4 * q) 4) old hw ho
  generalize preW s (4 * q) 4 = x at *
  obtain ⟨a, hq⟩ : ∃ a, a = 4 * q + 2 := ⟨_, rfl⟩
  rw [← hq] at ha e1 e2 ⊢
  obtain ⟨p, hp⟩ : ∃ p, p = 4 * q := ⟨_, rfl⟩
  rw [← hp] at e2 HW
  clear h hq hp
  go_enter Try.func51, Try.ntmps51
  go_wp2_with (go_at_call 40; refine HW.out.mono ?_; rintro e w2 ⟨rfl, n2, hww2⟩; rw [hww2]; clear hww2 w2)
  go_ret
  exact ⟨ret_int hc, below_drewN hB.out n2⟩
set_option maxRecDepth 20000 in
theorem load_lwr3 (w : World) (s : MS) (h : MemW w s) (S T D A imm : Int) (q old : Nat) (ha : 4 * q + 3 < 4294967296) (ho : old < 4294967296) : Calls Try.prog 51 #[.pointer (some ⟨s.mb, 0, none⟩), .agg (insC 54 S T D A imm), .int .u32 ((4 * q + 3 : Nat) : Int), .int .u32 (old : Int)] w fun e w' => e = .returned (.int .u32 (lwrN 3 (preW s (4 * q) 4) old : Int)) ∧ Below w.heap.size w w' := by
  have hB := hidden (below_new w (.cells (insC 54 S T D A imm) 62))
  have HM := hidden (h.alloc (.cells (insC 54 S T D A imm) 62))
  have e1 : ((4 * q + 3 : Nat) : Int) % 4 = 3 := by omega
  have e2 : ((4 * q + 3 : Nat) : Int) - 3 = ((4 * q : Nat) : Int) := by omega
  have HW := hidden (word_any _ s (4 * q) HM.out (by omega))
  have hw := wordN_lt s (4 * q)
  have hc := code_lwr3 (preW s (4 * q) 4) old hw ho
  rw [Nat.div_one] at hc
  generalize preW s (4 * q) 4 = x at *
  obtain ⟨a, hq⟩ : ∃ a, a = 4 * q + 3 := ⟨_, rfl⟩
  rw [← hq] at ha e1 e2 ⊢
  obtain ⟨p, hp⟩ : ∃ p, p = 4 * q := ⟨_, rfl⟩
  rw [← hp] at e2 HW
  clear h hq hp
  go_enter Try.func51, Try.ntmps51
  go_wp2_with (go_at_call 40; refine HW.out.mono ?_; rintro e w2 ⟨rfl, n2, hww2⟩; rw [hww2]; clear hww2 w2)
  go_ret
  exact ⟨ret_int rfl, below_drewN hB.out n2⟩
end Go.Proofs.Ytobnocioefchlaa
namespace Go.Proofs.Ytobnocioefchlaa
open Go.ChangeShapes Go.WideShapes Go.ChangeAt Go.RowKit
set_option linter.unusedVariables false
set_option maxRecDepth 20000 in
theorem load_other (w : World) (s : MS) (op S T D A imm : Int) (h1 : (op == 48) = false) (h2 : (op == 52) = false) (h3 : (op == 49) = false) (h4 : (op == 53) = false) (h5 : (op == 51) = false) (h6 : (op == 50) = false) (h7 : (op == 54) = false) (a old : Nat) : Calls Try.prog 51 #[.pointer (some ⟨s.mb, 0, none⟩), .agg (insC op S T D A imm), .int .u32 (a : Int), .int .u32 (old : Int)] w fun e w' => e = .returned (.int .u32 (old : Int)) ∧ Below w.heap.size w w' := by
  have hB := hidden (below_new w (.cells (insC op S T D A imm) 62))
  go_enter Try.func51, Try.ntmps51
  go_wp2
  go_ret
  exact ⟨rfl, hB.out⟩
theorem accLoad_any (w : World) (s : MS) (h : MemW w s) (op S T D A imm : Int) (a old : Nat) (ha : a < 4294967296) (ho : old < 4294967296) : Calls Try.prog 51 #[.pointer (some ⟨s.mb, 0, none⟩), .agg (insC op S T D A imm), .int .u32 (a : Int), .int .u32 (old : Int)] w fun e w' => e = .returned (.int .u32 (loadN s op a old : Int)) ∧ Below w.heap.size w w' := by
  by_cases h48 : op = 48
  · subst h48; exact load_48 w s h S T D A imm a old ha ho
  by_cases h52 : op = 52
  · subst h52; exact load_52 w s h S T D A imm a old ha ho
  by_cases h49 : op = 49
  · subst h49; exact load_49 w s h S T D A imm a old ha ho
  by_cases h53 : op = 53
  · subst h53; exact load_53 w s h S T D A imm a old ha ho
  by_cases h51 : op = 51
  · subst h51; exact load_51 w s h S T D A imm a old ha ho
  have hq : a = 4 * (a / 4) + a % 4 := by omega
  have hq4 : a - a % 4 = 4 * (a / 4) := by omega
  by_cases h50 : op = 50
  · subst h50
    rw [show loadN s 50 a old = lwlN (a % 4) (preW s (a - a % 4) 4) old from rfl, hq4]
    generalize a / 4 = q at hq hq4 ⊢
    rcases (show a % 4 = 0 ∨ a % 4 = 1 ∨ a % 4 = 2 ∨ a % 4 = 3 by omega) with e | e | e | e
    · rw [e] at hq ⊢; subst hq; exact load_lwl0 w s h S T D A imm q old ha ho
    · rw [e] at hq ⊢; subst hq; exact load_lwl1 w s h S T D A imm q old ha ho
    · rw [e] at hq ⊢; subst hq; exact load_lwl2 w s h S T D A imm q old ha ho
    · rw [e] at hq ⊢; subst hq; exact load_lwl3 w s h S T D A imm q old ha ho
  by_cases h54 : op = 54
  · subst h54
    rw [show loadN s 54 a old = lwrN (a % 4) (preW s (a - a % 4) 4) old from rfl, hq4]
    generalize a / 4 = q at hq hq4 ⊢
    rcases (show a % 4 = 0 ∨ a % 4 = 1 ∨ a % 4 = 2 ∨ a % 4 = 3 by omega) with e | e | e | e
    · rw [e] at hq ⊢; subst hq; exact load_lwr0 w s h S T D A imm q old ha ho
    · rw [e] at hq ⊢; subst hq; exact load_lwr1 w s h S T D A imm q old ha ho
    · rw [e] at hq ⊢; subst hq; exact load_lwr2 w s h S T D A imm q old ha ho
    · rw [e] at hq ⊢; subst hq; exact load_lwr3 w s h S T D A imm q old ha ho
  have e : loadN s op a old = old := by unfold loadN; rw [if_neg h48, if_neg h52, if_neg h49, if_neg h53, if_neg h51, if_neg h50, if_neg h54]
  rw [e]
  exact load_other w s op S T D A imm (beq_eq_false_iff_ne.2 h48) (beq_eq_false_iff_ne.2 h52) (beq_eq_false_iff_ne.2 h49) (beq_eq_false_iff_ne.2 h53) (beq_eq_false_iff_ne.2 h51) (beq_eq_false_iff_ne.2 h50) (beq_eq_false_iff_ne.2 h54) a old
end Go.Proofs.Ytobnocioefchlaa
namespace Go.Proofs.Ytobnocioefchlaa
open Go.ChangeShapes Go.WideShapes Go.ChangeAt Go.RowKit
set_option linter.unusedVariables false
/-- What a register counts as. -/
def SV.reg (v : SV) (k : Nat) : Int := if k = 0 then 0 else v.R.getD k 0
/-- On. -/
def SV.on (v : SV) : SV := { v with R := v.R.set 0 0, pc := v.nx, nx := (v.nx + 4) % 4294967296, sl := false }
/-- Target. -/
def targP (op imm next x : Int) : Int := if op = 27 ∨ op = 28 then x else if op = 68 ∨ op = 69 then bits .or .u32 (bits .and .u32 next 4026531840) imm else (next + imm) % 4294967296
structure Out where
  st : SV
  out : Int
  kd : Int
  pc : Int
  sl : Bool
  bad : Int
def stopO (v : SV) (k b : Int) : Out := ⟨v, 2, k, v.pc, v.sl, b⟩
def wentO (v : SV) (o : Int) : Out := ⟨v, o, 0, 0, false, 0⟩
abbrev faultC (k p : Int) (l : Bool) (b : Int) : Array Value := #[.int .i64 k, .int .u32 p, .bool l, .int .u32 b]
def Out.v (x : Out) : Value := .tuple #[.agg x.st.c, .int .i64 x.out, .agg (faultC x.kd x.pc x.sl x.bad)]
/-- Which fault stops an instruction, and the place that was asked for. -/
def wrongP (s : MS) (sl : Bool) (op m x t : Int) (a : Nat) : Int × Int :=
  if kindP op = 0 ∨ (kindP op = 2 ∧ sl = true) then (7, 0)
  else if op = 36 then (10, 0)
  else if trapB op x t m = true then (if op = 9 ∨ op = 41 ∨ op = 10 then 8 else 9, 0)
  else if faultK s op a = 0 then (0, 0) else (faultK s op a, (a : Int))
/-- What an instruction puts into its register, if it does. -/
def putP (s : MS) (hi lo nx op A m x t : Int) (a : Nat) : Option Int :=
  if op = 28 ∨ op = 66 ∨ op = 67 ∨ op = 69 then some ((nx + 4) % 4294967296)
  else if op = 14 then (if t = 0 then some x else none)
  else if op = 15 then (if t = 0 then none else some x)
  else if op = 23 then some hi
  else if op = 24 then some lo
  else if 48 ≤ op ∧ op ≤ 54 then some (loadN s op a t.toNat : Int)
  else if (reck op x t A m).2 = true then some (reck op x t A m).1
  else none
def setO (l : List Int) (k : Nat) (o : Option Int) : List Int := match o with
  | none => l.set 0 0
  | some z => (l.set k z).set 0 0
def jumpB (op : Int) : Bool := decide (op = 27 ∨ op = 28 ∨ (60 ≤ op ∧ op ≤ 69))
/-- The state behind an instruction that nothing stops. -/
def doP (s : MS) (v : SV) (op m A x t : Int) (k a : Nat) : SV :=
  { R := setO v.R k (putP s v.hi v.lo v.nx op A m x t a), hi := (longV op x t v.hi v.lo).1, lo := (longV op x t v.hi v.lo).2, pc := v.nx,
    nx := if (jumpB op && takeB op x t m) = true then targP op m v.nx x else (v.nx + 4) % 4294967296, sl := jumpB op }
/-- One instruction. -/
def insP (s : MS) (v : SV) (i : Fl) : Out :=
  let x := v.reg i.tk.s
  let t := v.reg i.tk.t
  let a := ((x + (i.tk.imm : Int)) % 4294967296).toNat
  let w := wrongP s v.sl i.op i.tk.imm x t a
  if w.1 ≠ 0 then stopO v w.1 w.2
  else if i.op = 35 then wentO v 1
  else wentO (doP s v i.op i.tk.imm i.tk.a x t (writeV i.op i.tk.t i.tk.d).toNat a) 0
def insL (s : MS) (v : SV) (i : Fl) : List (Nat × UInt8) :=
  let x := v.reg i.tk.s
  let t := v.reg i.tk.t
  let a := ((x + (i.tk.imm : Int)) % 4294967296).toNat
  if (insP s v i).out = 0 then storeL i.op a t.toNat else []
/-- A step: what it answers, and what it writes. -/
def stepP (s : MS) (v : SV) : Out :=
  if (fetchV s v.pc.toNat).2 ≠ 0 then stopO v (fetchV s v.pc.toNat).2 v.pc else insP s v (insR (fetchV s v.pc.toNat).1.toNat)
def stepL (s : MS) (v : SV) : List (Nat × UInt8) :=
  if (fetchV s v.pc.toNat).2 ≠ 0 then [] else insL s v (insR (fetchV s v.pc.toNat).1.toNat)
theorem SV.reg_ok {v : SV} (h : v.ok) (k : Nat) (hk : k < 32) : 0 ≤ v.reg k ∧ v.reg k < 4294967296 := by
  unfold SV.reg
  split
  · omega
  · exact h.2.1 k hk
end Go.Proofs.Ytobnocioefchlaa
