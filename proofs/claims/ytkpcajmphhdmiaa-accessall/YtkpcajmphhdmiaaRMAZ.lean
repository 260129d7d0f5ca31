/- What instructions ask of a place: Kind, Fetch. -/
import Derived.Test.YtkpcajmphhdmiaaRMAY
namespace Go.Proofs.Ytkpcajmphhdmiaa
open Go.ChangeShapes Go.WideShapes Go.ChangeAt Go.RowKit
set_option linter.unusedVariables false
/-- An instruction's value. -/
abbrev insC (op S T D A imm : Int) : Array Value := #[.int .i64 op, .int .i64 S, .int .i64 T, .int .i64 D, .int .i64 A, .int .u32 imm]
/-- Whether a place may not be, by its number. -/
def astrayB (op : Int) (a : Nat) : Bool := if op = 51 ∨ op = 58 then decide (a % 4 ≠ 0) else if op = 49 ∨ op = 53 ∨ op = 56 then decide (a % 2 ≠ 0) else false
theorem bne_t {x : Int} (h : (x == 0) = false) : (x != 0) = true := by unfold bne; rw [h]; rfl
theorem bne_f {x : Int} (h : (x == 0) = true) : (x != 0) = false := by unfold bne; rw [h]; rfl
set_option maxRecDepth 20000 in
theorem astray_w (op : Int) (h : op = 51 ∨ op = 58) (a : Nat) (ha : a < 4294967296) (w : World) : Calls Try.prog 61 #[.int .i64 op, .int .u32 (a : Int)] w fun e w' => e = .returned (.bool (decide (a % 4 ≠ 0))) ∧ w' = w := by
  by_cases h1 : a / 2 % 2 ≠ 0
  · rw [decide_eq_true (show a % 4 ≠ 0 by omega)]
    have f1 : ((a : Int) / 2 % 2 == 0) = false := beq_eq_false_iff_ne.2 (by omega)
    rcases h with rfl | rfl
    · go_enter Try.func61, Try.ntmps61
      go_wp2
      go_ret
      exact ⟨rfl, rfl⟩
    · go_enter Try.func61, Try.ntmps61
      go_wp2
      go_ret
      exact ⟨rfl, rfl⟩
  · have f1 : ((a : Int) / 2 % 2 == 0) = true := beq_iff_eq.2 (by omega)
    by_cases h2 : a % 2 ≠ 0
    · rw [decide_eq_true (show a % 4 ≠ 0 by omega)]
      have f2 : ((a : Int) % 2 == 0) = false := beq_eq_false_iff_ne.2 (by omega)
      rcases h with rfl | rfl
      · go_enter Try.func61, Try.ntmps61
        go_wp2
        go_ret
        exact ⟨ret_bool (bne_t f2), rfl⟩
      · go_enter Try.func61, Try.ntmps61
        go_wp2
        go_ret
        exact ⟨ret_bool (bne_t f2), rfl⟩
    · rw [decide_eq_false (show ¬ a % 4 ≠ 0 by omega)]
      have f2 : ((a : Int) % 2 == 0) = true := beq_iff_eq.2 (by omega)
      rcases h with rfl | rfl
      · go_enter Try.func61, Try.ntmps61
        go_wp2
        go_ret
        exact ⟨ret_bool (bne_f f2), rfl⟩
      · go_enter Try.func61, Try.ntmps61
        go_wp2
        go_ret
        exact ⟨ret_bool (bne_f f2), rfl⟩
set_option maxRecDepth 20000 in
theorem astray_h (op : Int) (h : op = 49 ∨ op = 53 ∨ op = 56) (a : Nat) (ha : a < 4294967296) (w : World) : Calls Try.prog 61 #[.int .i64 op, .int .u32 (a : Int)] w fun e w' => e = .returned (.bool (decide (a % 2 ≠ 0))) ∧ w' = w := by
  by_cases h2 : a % 2 ≠ 0
  · rw [decide_eq_true h2]
    have f2 : ((a : Int) % 2 == 0) = false := beq_eq_false_iff_ne.2 (by omega)
    rcases h with rfl | rfl | rfl
    · go_enter Try.func61, Try.ntmps61
      go_wp2
      go_ret
      exact ⟨ret_bool (bne_t f2), rfl⟩
    · go_enter Try.func61, Try.ntmps61
      go_wp2
      go_ret
      exact ⟨ret_bool (bne_t f2), rfl⟩
    · go_enter Try.func61, Try.ntmps61
      go_wp2
      go_ret
      exact ⟨ret_bool (bne_t f2), rfl⟩
  · rw [decide_eq_false h2]
    have f2 : ((a : Int) % 2 == 0) = true := beq_iff_eq.2 (by omega)
    rcases h with rfl | rfl | rfl
    · go_enter Try.func61, Try.ntmps61
      go_wp2
      go_ret
      exact ⟨ret_bool (bne_f f2), rfl⟩
    · go_enter Try.func61, Try.ntmps61
      go_wp2
      go_ret
      exact ⟨ret_bool (bne_f f2), rfl⟩
    · go_enter Try.func61, Try.ntmps61
      go_wp2
      go_ret
      exact ⟨ret_bool (bne_f f2), rfl⟩
set_option maxRecDepth 20000 in
theorem astray_o (op : Int) (h1 : (op == 51) = false) (h2 : (op == 58) = false) (h3 : (op == 49) = false) (h4 : (op == 53) = false) (h5 : (op == 56) = false) (a : Nat) (w : World) : Calls Try.prog 61 #[.int .i64 op, .int .u32 (a : Int)] w fun e w' => e = .returned (.bool false) ∧ w' = w := by
  go_enter Try.func61, Try.ntmps61
  go_wp2
  go_ret
  exact ⟨rfl, rfl⟩
theorem astray_any (op : Int) (a : Nat) (ha : a < 4294967296) (w : World) : Calls Try.prog 61 #[.int .i64 op, .int .u32 (a : Int)] w fun e w' => e = .returned (.bool (astrayB op a)) ∧ w' = w := by
  unfold astrayB
  by_cases h1 : op = 51 ∨ op = 58
  · rw [if_pos h1]
    exact astray_w op h1 a ha w
  · rw [if_neg h1]
    by_cases h2 : op = 49 ∨ op = 53 ∨ op = 56
    · rw [if_pos h2]
      exact astray_h op h2 a ha w
    · rw [if_neg h2]
      exact astray_o op (beq_eq_false_iff_ne.2 (by omega)) (beq_eq_false_iff_ne.2 (by omega)) (beq_eq_false_iff_ne.2 (by omega)) (beq_eq_false_iff_ne.2 (by omega)) (beq_eq_false_iff_ne.2 (by omega)) a w
/-- What a need says of a place. -/
def faultV (s : MS) (pm al pg : Int) (op : Int) (a : Nat) : Int := if astrayB op a = true then al else if bits .and .i64 (s.perm a) pm = 0 then pg else 0
theorem MemW.alloc {w : World} {s : MS} (h : MemW w s) (o : Obj) : MemW (w.alloc o) s := h.later (below_new w o)
set_option maxRecDepth 20000 in
theorem fault_any (w : World) (s : MS) (h : MemW w s) (pm al pg : Int) (op : Int) (a : Nat) (ha : a < 4294967296) : Calls Try.prog 35 #[.agg #[.int .i64 pm, .int .i64 al, .int .i64 pg], .pointer (some ⟨s.mb, 0, none⟩), .int .i64 op, .int .u32 (a : Int)] w fun e w' => e = .returned (.int .i64 (faultV s pm al pg op a)) ∧ Below w.heap.size w w' := by
  have HA := hidden (fun u => astray_any op a ha u)
  have hB := hidden (below_new w (.cells #[.int .i64 pm, .int .i64 al, .int .i64 pg] 65))
  have HM := hidden (h.alloc (.cells #[.int .i64 pm, .int .i64 al, .int .i64 pg] 65))
  unfold faultV
  clear h
  cases hs : astrayB op a with
  | true =>
    rw [hs] at HA
    rw [if_pos rfl]
    clear hs
    go_enter Try.func35, Try.ntmps35
    go_wp2_with (go_at_call 61; refine (HA.out _).mono ?_; rintro e w1 ⟨rfl, hww⟩; rw [hww]; clear hww w1)
    go_ret
    exact ⟨rfl, hB.out⟩
  | false =>
    rw [hs] at HA
    rw [if_neg (by decide)]
    clear hs
    have HP := hidden (fun m => permOf_any _ s a (HM.out.drewN m) ha)
    generalize s.perm a = p at HP ⊢
    by_cases hz : bits .and .i64 p pm = 0
    · have f1 : (bits .and .i64 p pm == 0) = true := beq_iff_eq.2 hz
      rw [if_pos hz]
      clear hz
      go_enter Try.func35, Try.ntmps35
      go_wp2_with (go_at_call 61; refine (HA.out _).mono ?_; rintro e w1 ⟨rfl, hww⟩; rw [hww]; clear hww w1)
      go_quiet ((go_at_call 37; exact Calls.quiet_of (HP.out _)))
      go_wp2
      go_ret
      exact ⟨rfl, below_drewN hB.out _⟩
    · have f1 : (bits .and .i64 p pm == 0) = false := beq_eq_false_iff_ne.2 hz
      rw [if_neg hz]
      clear hz
      go_enter Try.func35, Try.ntmps35
      go_wp2_with (go_at_call 61; refine (HA.out _).mono ?_; rintro e w1 ⟨rfl, hww⟩; rw [hww]; clear hww w1)
      go_quiet ((go_at_call 37; exact Calls.quiet_of (HP.out _)))
      go_wp2
      go_ret
      exact ⟨rfl, below_drewN hB.out _⟩
/-- The fault's kind of an instruction at a place. -/
def faultK (s : MS) (op : Int) (a : Nat) : Int := if kindP op = 4 then faultV s 4 2 5 op a else if kindP op = 5 then faultV s 2 3 6 op a else 0
set_option maxRecDepth 20000 in
theorem accKind_any (w : World) (s : MS) (h : MemW w s) (op S T D A imm : Int) (a : Nat) (ha : a < 4294967296) : Calls Try.prog 11 #[.pointer (some ⟨s.mb, 0, none⟩), .agg (insC op S T D A imm), .int .u32 (a : Int)] w fun e w' => e = .returned (.int .i64 (faultK s op a)) ∧ Below w.heap.size w w' := by
  have HK := hidden (fun u => insKind_any op u)
  have hB := hidden (below_new w (.cells (insC op S T D A imm) 31))
  have hI := Blk.new w (insC op S T D A imm) 31
  have HI := hidden hI
  have HM := hidden (h.alloc (.cells (insC op S T D A imm) 31))
  have HF := hidden (fun (u : World) (hm : MemW u s) (pm al pg : Int) => fault_any u s hm pm al pg op a ha)
  unfold faultK
  clear h hI
  obtain ⟨kd, hkd⟩ : ∃ kd, kindP op = kd := ⟨_, rfl⟩
  rw [hkd] at HK ⊢
  clear hkd
  by_cases h4 : kd = 4
  · rw [if_pos h4]
    subst h4
    go_enter Try.func11, Try.ntmps11
    go_wp2_with (first | (go_at_call 34; refine (HK.out _).mono ?_; rintro e w1 ⟨rfl, hb1⟩; have c1 : w1.cell? ⟨w.heap.size, 0, none⟩ = some (.int .i64 op) := (HI.out.later hb1).cell rfl; have HM1 := hidden (HM.out.later hb1); have HB1 := hidden (hB.out.trans (hb1.mono hB.out.size)); clear hb1) | (go_at_call 35; refine (HF.out _ HM1.out 4 2 5).mono ?_; rintro e w2 ⟨rfl, hb2⟩; have HB2 := hidden hb2; clear hb2))
    go_ret
    exact ⟨rfl, HB1.out.trans (HB2.out.mono HB1.out.size)⟩
  · rw [if_neg h4]
    have g4 : (kd == 4) = false := beq_eq_false_iff_ne.2 h4
    by_cases h5 : kd = 5
    · rw [if_pos h5]
      subst h5
      clear h4 g4
      go_enter Try.func11, Try.ntmps11
      go_wp2_with (first | (go_at_call 34; refine (HK.out _).mono ?_; rintro e w1 ⟨rfl, hb1⟩; have c1 : w1.cell? ⟨w.heap.size, 0, none⟩ = some (.int .i64 op) := (HI.out.later hb1).cell rfl; have HM1 := hidden (HM.out.later hb1); have HB1 := hidden (hB.out.trans (hb1.mono hB.out.size)); clear hb1) | (go_at_call 35; refine (HF.out _ HM1.out 2 3 6).mono ?_; rintro e w2 ⟨rfl, hb2⟩; have HB2 := hidden hb2; clear hb2))
      go_ret
      exact ⟨rfl, HB1.out.trans (HB2.out.mono HB1.out.size)⟩
    · rw [if_neg h5]
      have g5 : (kd == 5) = false := beq_eq_false_iff_ne.2 h5
      clear h4 h5
      go_enter Try.func11, Try.ntmps11
      go_wp2_with (go_at_call 34; refine (HK.out _).mono ?_; rintro e w1 ⟨rfl, hb1⟩; have HB1 := hidden (hB.out.trans (hb1.mono hB.out.size)); clear hb1)
      go_ret
      exact ⟨rfl, HB1.out⟩
/-- An instruction's word: its number, its fault's kind. -/
def fetchV (s : MS) (a : Nat) : Int × Int := if a % 4 ≠ 0 then (0, 1) else if bits .and .i64 (s.perm a) 1 = 0 then (0, 4) else ((preW s a 4 : Nat), 0)
set_option maxRecDepth 20000 in
theorem accFetch_any (w : World) (s : MS) (h : MemW w s) (a : Nat) (ha : a < 4294967296) : Calls Try.prog 13 #[.pointer (some ⟨s.mb, 0, none⟩), .int .u32 (a : Int)] w fun e w' => e = .returned (.tuple #[.int .u32 (fetchV s a).1, .int .i64 (fetchV s a).2]) ∧ ∃ n, w' = w.drewN n := by
  have HP := hidden (permOf_any w s a h ha)
  have HW := hidden (fun m => word_any (w.drewN m) s a (h.drewN m) ha)
  clear h
  by_cases h4 : a % 4 ≠ 0
  · have f1 : ((a : Int) % 4 == 0) = false := beq_eq_false_iff_ne.2 (by omega)
    rw [show fetchV s a = (0, 1) from if_pos h4]
    go_enter Try.func13, Try.ntmps13
    go_wp2
    go_ret2
    exact ⟨rfl, 0, rfl⟩
  · have f1 : ((a : Int) % 4 == 0) = true := beq_iff_eq.2 (by omega)
    unfold fetchV
    rw [if_neg h4]
    generalize s.perm a = p at HP ⊢
    by_cases hz : bits .and .i64 p 1 = 0
    · have f2 : (bits .and .i64 p 1 == 0) = true := beq_iff_eq.2 hz
      rw [if_pos hz]
      clear hz
      go_enter Try.func13, Try.ntmps13
      go_wp2_with (go_at_call 37; refine HP.out.mono ?_; rintro e w1 ⟨rfl, n, hww⟩; rw [hww]; clear hww w1)
      go_ret2
      exact ⟨rfl, n, rfl⟩
    · have f2 : (bits .and .i64 p 1 == 0) = false := beq_eq_false_iff_ne.2 hz
      rw [if_neg hz]
      clear hz
      go_enter Try.func13, Try.ntmps13
      go_wp2_with (first | (go_at_call 37; refine HP.out.mono ?_; rintro e w1 ⟨rfl, n, hww⟩; rw [hww]; clear hww w1) | (go_at_call 23; refine (HW.out _).mono ?_; rintro e w2 ⟨rfl, n2, hww2⟩; rw [hww2]; clear hww2 w2))
      go_ret2
      exact ⟨rfl, n + n2, rfl⟩
end Go.Proofs.Ytkpcajmphhdmiaa
namespace Go.Proofs.Ytkpcajmphhdmiaa
open Go.ChangeShapes Go.WideShapes Go.ChangeAt Go.RowKit
set_option linter.unusedVariables false
/-- A byte of a memory, as a number; two of them. -/
def byteN (s : MS) (a : Nat) : Nat := (s.get a).toNat
def halfN (s : MS) (a : Nat) : Nat := byteN s a * 256 + byteN s (wrapAt a 1)
theorem byteN_lt (s : MS) (a : Nat) : byteN s a < 256 := (s.get a).toNat_lt
theorem halfN_lt (s : MS) (a : Nat) : halfN s a < 65536 := by
  have h1 := byteN_lt s a
  have h2 := byteN_lt s (wrapAt a 1)
  unfold halfN
  omega
theorem wordN_lt (s : MS) (a : Nat) : preW s a 4 < 4294967296 := preW_lt s a 4
theorem or_low16 (x y : Nat) (hx : x < 256) (hy : y < 256) : bits .or .u16 ((x : Int) * 256) (y : Int) = ((x * 256 + y : Nat) : Int) := by
  have h : x * 256 ||| y = x * 256 + y := by
    have := Nat.two_pow_add_eq_or_of_lt (i := 8) (b := y) (by omega) x
    rw [show 2 ^ 8 * x = x * 256 by omega] at this
    exact this.symm
  have e1 : (BitVec.ofInt 16 ((x : Int) * 256)).toNat = x * 256 := by
    rw [show (x : Int) * 256 = ((x * 256 : Nat) : Int) by omega, BitVec.ofInt_natCast, BitVec.toNat_ofNat]
    omega
  have e2 : (BitVec.ofInt 16 (y : Int)).toNat = y := by
    rw [BitVec.ofInt_natCast, BitVec.toNat_ofNat]
    omega
  show IntKind.u16.wrap ((BitVec.ofInt 16 ((x : Int) * 256) ||| BitVec.ofInt 16 (y : Int)).toNat : Nat) = _
  rw [BitVec.toNat_or, e1, e2, h]
  show (((x * 256 + y : Nat) : Int)) % 65536 = _
  omega
set_option maxRecDepth 20000 in
theorem half_any (w : World) (s : MS) (h : MemW w s) (a : Nat) (ha : a < 4294967296) : Calls Try.prog 40 #[.pointer (some ⟨s.mb, 0, none⟩), .int .u32 (a : Int)] w fun e w' => e = .returned (.int .u16 (halfN s a : Int)) ∧ ∃ n, w' = w.drewN n := by
  have HP := hidden (peek_any w s a h ha)
  have HQ := hidden (fun m => peek_any (w.drewN m) s (wrapAt a 1) (h.drewN m) (wrapAt_lt a 1))
  have b1 := byteN_lt s a
  have b2 := byteN_lt s (wrapAt a 1)
  have hor := or_low16 _ _ b1 b2
  have ew : ((a : Int) + 1) % 4294967296 = ((wrapAt a 1 : Nat) : Int) := by unfold wrapAt; omega
  rw [show halfN s a = byteN s a * 256 + byteN s (wrapAt a 1) from rfl]
  change Hid (Calls Try.prog 39 _ w fun e w' => e = .returned (.int .u8 (byteN s a : Int)) ∧ _) at HP
  change Hid (∀ m, Calls Try.prog 39 _ (w.drewN m) fun e w' => e = .returned (.int .u8 (byteN s (wrapAt a 1) : Int)) ∧ _) at HQ
  generalize byteN s a = x at *
  generalize byteN s (wrapAt a 1) = y at *
  generalize wrapAt a 1 = q at *
  clear h
  go_enter Try.func40, Try.ntmps40
  go_wp2_with (first | (go_at_call 39; refine HP.out.mono ?_; rintro e w1 ⟨rfl, n, hww⟩; rw [hww]; clear hww w1; clear HP) | (go_at_call 39; refine (HQ.out _).mono ?_; rintro e w2 ⟨rfl, n2, hww2⟩; rw [hww2]; clear hww2 w2))
  go_ret
  exact ⟨ret_int (by omega), n + n2, rfl⟩
/-- A word of which the lowest bytes are another one's; of which the highest are. -/
def lwlN (k w old : Nat) : Nat := w * 2 ^ (8 * k) % 4294967296 + old % 2 ^ (8 * k)
def lwrN (k w old : Nat) : Nat := w / 2 ^ (24 - 8 * k) + old / 2 ^ (8 * k + 8) * 2 ^ (8 * k + 8)
/-- What an instruction reads. -/
def loadN (s : MS) (op : Int) (a old : Nat) : Nat :=
  if op = 48 then (if byteN s a < 128 then byteN s a else byteN s a + 4294967040)
  else if op = 52 then byteN s a
  else if op = 49 then (if halfN s a < 32768 then halfN s a else halfN s a + 4294901760)
  else if op = 53 then halfN s a
  else if op = 51 then preW s a 4
  else if op = 50 then lwlN (a % 4) (preW s (a - a % 4) 4) old
  else if op = 54 then lwrN (a % 4) (preW s (a - a % 4) 4) old
  else old
theorem sx8 {x r : Nat} (h : x < 256) (hr : r = (if x < 128 then x else x + 4294967040)) : IntKind.i8.wrap (x : Int) % 4294967296 = (r : Int) := by
  have e : IntKind.i8.wrap (x : Int) = if (x : Int) < 128 then (x : Int) else (x : Int) - 256 := by
    unfold IntKind.wrap
    simp [IntKind.bits, IntKind.signed]
    split <;> split <;> omega
  rw [e, hr]
  split <;> split <;> omega
theorem sx16 {x r : Nat} (h : x < 65536) (hr : r = (if x < 32768 then x else x + 4294901760)) : IntKind.i16.wrap (x : Int) % 4294967296 = (r : Int) := by
  have e : IntKind.i16.wrap (x : Int) = if (x : Int) < 32768 then (x : Int) else (x : Int) - 65536 := by
    unfold IntKind.wrap
    simp [IntKind.bits, IntKind.signed]
    split <;> split <;> omega
  rw [e, hr]
  split <;> split <;> omega
theorem or_sum (j w y : Nat) (hy : y < 2 ^ j) : 2 ^ j * w ||| y = 2 ^ j * w + y := (Nat.two_pow_add_eq_or_of_lt hy w).symm
theorem low_mask (x j : Nat) : x &&& (2 ^ j - 1) = x % 2 ^ j := Nat.and_two_pow_sub_one_eq_mod x j
theorem high_mask (x j : Nat) (hj : j ≤ 32) (hx : x < 4294967296) : x &&& (4294967296 - 2 ^ j) = x / 2 ^ j * 2 ^ j := by
  have e : 4294967296 - 2 ^ j = 2 ^ j * (2 ^ (32 - j) - 1) := by
    have : (4294967296 : Nat) = 2 ^ j * 2 ^ (32 - j) := by rw [← Nat.pow_add, show j + (32 - j) = 32 by omega]
    rw [Nat.mul_sub, ← this, Nat.mul_one]
  rw [e, Nat.mul_comm (x / 2 ^ j)]
  apply Nat.eq_of_testBit_eq
  intro i
  rw [Nat.testBit_and, Nat.testBit_two_pow_mul, Nat.testBit_two_pow_mul, Nat.testBit_div_two_pow, Nat.testBit_two_pow_sub_one]
  by_cases h1 : i ≥ j
  · rw [decide_eq_true h1, Bool.true_and, Bool.true_and, show i - j + j = i by omega]
    by_cases h2 : i < 32
    · rw [decide_eq_true (show i - j < 32 - j by omega), Bool.and_true]
    · rw [Nat.testBit_lt_two_pow (Nat.lt_of_lt_of_le hx (show 4294967296 ≤ 2 ^ i from Nat.pow_le_pow_right (n := 2) (by omega) (show 32 ≤ i by omega)))]
      rfl
  · rw [decide_eq_false h1, Bool.false_and, Bool.false_and, Bool.and_false]
theorem code_lwl0 (w old : Nat) (hw : w < 4294967296) (ho : old < 4294967296) : bits .or .u32 (((w * 1 % 4294967296 : Nat)) : Int) (bits .andNot .u32 (old : Int) 4294967295) = ((lwlN 0 w old : Nat) : Int) := by
  have e1 := u32_andNot_nat old 4294967295 ho (by omega)
  rw [show 4294967295 - 4294967295 = 2 ^ 0 - 1 by decide, low_mask] at e1
  rw [show ((4294967295 : Nat) : Int) = 4294967295 from rfl] at e1
  have hm : old % 2 ^ 0 < 2 ^ 0 := Nat.mod_lt _ (by decide)
  rw [e1, u32_or_nat _ _ (Nat.mod_lt _ (by omega)) (Nat.lt_of_lt_of_le hm (by decide))]
  have e2 : w * 1 % 4294967296 = 2 ^ 0 * (w % 2 ^ 32) := by
    rw [show (4294967296 : Nat) = 2 ^ 0 * 2 ^ 32 by decide, Nat.mul_comm w, show (1 : Nat) = 2 ^ 0 by decide, Nat.mul_mod_mul_left]
  rw [e2, or_sum _ _ _ hm, ← e2]
  rfl
theorem code_lwl1 (w old : Nat) (hw : w < 4294967296) (ho : old < 4294967296) : bits .or .u32 (((w * 256 % 4294967296 : Nat)) : Int) (bits .andNot .u32 (old : Int) 4294967040) = ((lwlN 1 w old : Nat) : Int) := by
  have e1 := u32_andNot_nat old 4294967040 ho (by omega)
  rw [show 4294967295 - 4294967040 = 2 ^ 8 - 1 by decide, low_mask] at e1
  rw [show ((4294967040 : Nat) : Int) = 4294967040 from rfl] at e1
  have hm : old % 2 ^ 8 < 2 ^ 8 := Nat.mod_lt _ (by decide)
  rw [e1, u32_or_nat _ _ (Nat.mod_lt _ (by omega)) (Nat.lt_of_lt_of_le hm (by decide))]
  have e2 : w * 256 % 4294967296 = 2 ^ 8 * (w % 2 ^ 24) := by
    rw [show (4294967296 : Nat) = 2 ^ 8 * 2 ^ 24 by decide, Nat.mul_comm w, show (256 : Nat) = 2 ^ 8 by decide, Nat.mul_mod_mul_left]
  rw [e2, or_sum _ _ _ hm, ← e2]
  rfl
theorem code_lwl2 (w old : Nat) (hw : w < 4294967296) (ho : old < 4294967296) : bits .or .u32 (((w * 65536 % 4294967296 : Nat)) : Int) (bits .andNot .u32 (old : Int) 4294901760) = ((lwlN 2 w old : Nat) : Int) := by
  have e1 := u32_andNot_nat old 4294901760 ho (by omega)
  rw [show 4294967295 - 4294901760 = 2 ^ 16 - 1 by decide, low_mask] at e1
  rw [show ((4294901760 : Nat) : Int) = 4294901760 from rfl] at e1
  have hm : old % 2 ^ 16 < 2 ^ 16 := Nat.mod_lt _ (by decide)
  rw [e1, u32_or_nat _ _ (Nat.mod_lt _ (by omega)) (Nat.lt_of_lt_of_le hm (by decide))]
  have e2 : w * 65536 % 4294967296 = 2 ^ 16 * (w % 2 ^ 16) := by
    rw [show (4294967296 : Nat) = 2 ^ 16 * 2 ^ 16 by decide, Nat.mul_comm w, show (65536 : Nat) = 2 ^ 16 by decide, Nat.mul_mod_mul_left]
  rw [e2, or_sum _ _ _ hm, ← e2]
  rfl
theorem code_lwl3 (w old : Nat) (hw : w < 4294967296) (ho : old < 4294967296) : bits .or .u32 (((w * 16777216 % 4294967296 : Nat)) : Int) (bits .andNot .u32 (old : Int) 4278190080) = ((lwlN 3 w old : Nat) : Int) := by
  have e1 := u32_andNot_nat old 4278190080 ho (by omega)
  rw [show 4294967295 - 4278190080 = 2 ^ 24 - 1 by decide, low_mask] at e1
  rw [show ((4278190080 : Nat) : Int) = 4278190080 from rfl] at e1
  have hm : old % 2 ^ 24 < 2 ^ 24 := Nat.mod_lt _ (by decide)
  rw [e1, u32_or_nat _ _ (Nat.mod_lt _ (by omega)) (Nat.lt_of_lt_of_le hm (by decide))]
  have e2 : w * 16777216 % 4294967296 = 2 ^ 24 * (w % 2 ^ 8) := by
    rw [show (4294967296 : Nat) = 2 ^ 24 * 2 ^ 8 by decide, Nat.mul_comm w, show (16777216 : Nat) = 2 ^ 24 by decide, Nat.mul_mod_mul_left]
  rw [e2, or_sum _ _ _ hm, ← e2]
  rfl
theorem code_lwr0 (w old : Nat) (hw : w < 4294967296) (ho : old < 4294967296) : bits .or .u32 (((w / 16777216 : Nat)) : Int) (bits .andNot .u32 (old : Int) 255) = ((lwrN 0 w old : Nat) : Int) := by
  have e1 := u32_andNot_nat old 255 ho (by omega)
  rw [show 4294967295 - 255 = 4294967296 - 2 ^ 8 by decide, high_mask _ _ (by omega) ho] at e1
  rw [show ((255 : Nat) : Int) = 255 from rfl] at e1
  have hm : w / 16777216 < 2 ^ 8 := by omega
  have hh : old / 2 ^ 8 * 2 ^ 8 < 4294967296 := Nat.lt_of_le_of_lt (Nat.div_mul_le_self _ _) ho
  rw [e1, u32_or_nat _ _ (Nat.lt_of_lt_of_le hm (by decide)) hh]
  rw [Nat.or_comm, Nat.mul_comm, or_sum _ _ _ hm, Nat.add_comm, Nat.mul_comm]
  rfl
theorem code_lwr1 (w old : Nat) (hw : w < 4294967296) (ho : old < 4294967296) : bits .or .u32 (((w / 65536 : Nat)) : Int) (bits .andNot .u32 (old : Int) 65535) = ((lwrN 1 w old : Nat) : Int) := by
  have e1 := u32_andNot_nat old 65535 ho (by omega)
  rw [show 4294967295 - 65535 = 4294967296 - 2 ^ 16 by decide, high_mask _ _ (by omega) ho] at e1
  rw [show ((65535 : Nat) : Int) = 65535 from rfl] at e1
  have hm : w / 65536 < 2 ^ 16 := by omega
  have hh : old / 2 ^ 16 * 2 ^ 16 < 4294967296 := Nat.lt_of_le_of_lt (Nat.div_mul_le_self _ _) ho
  rw [e1, u32_or_nat _ _ (Nat.lt_of_lt_of_le hm (by decide)) hh]
  rw [Nat.or_comm, Nat.mul_comm, or_sum _ _ _ hm, Nat.add_comm, Nat.mul_comm]
  rfl
theorem code_lwr2 (w old : Nat) (hw : w < 4294967296) (ho : old < 4294967296) : bits .or .u32 (((w / 256 : Nat)) : Int) (bits .andNot .u32 (old : Int) 16777215) = ((lwrN 2 w old : Nat) : Int) := by
  have e1 := u32_andNot_nat old 16777215 ho (by omega)
  rw [show 4294967295 - 16777215 = 4294967296 - 2 ^ 24 by decide, high_mask _ _ (by omega) ho] at e1
  rw [show ((16777215 : Nat) : Int) = 16777215 from rfl] at e1
  have hm : w / 256 < 2 ^ 24 := by omega
  have hh : old / 2 ^ 24 * 2 ^ 24 < 4294967296 := Nat.lt_of_le_of_lt (Nat.div_mul_le_self _ _) ho
  rw [e1, u32_or_nat _ _ (Nat.lt_of_lt_of_le hm (by decide)) hh]
  rw [Nat.or_comm, Nat.mul_comm, or_sum _ _ _ hm, Nat.add_comm, Nat.mul_comm]
  rfl
theorem code_lwr3 (w old : Nat) (hw : w < 4294967296) (ho : old < 4294967296) : bits .or .u32 (((w / 1 : Nat)) : Int) (bits .andNot .u32 (old : Int) 4294967295) = ((lwrN 3 w old : Nat) : Int) := by
  have e1 := u32_andNot_nat old 4294967295 ho (by omega)
  rw [show 4294967295 - 4294967295 = 4294967296 - 2 ^ 32 by decide, high_mask _ _ (by omega) ho] at e1
  rw [show ((4294967295 : Nat) : Int) = 4294967295 from rfl] at e1
  have hm : w / 1 < 2 ^ 32 := by omega
  have hh : old / 2 ^ 32 * 2 ^ 32 < 4294967296 := Nat.lt_of_le_of_lt (Nat.div_mul_le_self _ _) ho
  rw [e1, u32_or_nat _ _ (Nat.lt_of_lt_of_le hm (by decide)) hh]
  rw [Nat.or_comm, Nat.mul_comm, or_sum _ _ _ hm, Nat.add_comm, Nat.mul_comm]
  rfl
set_option maxRecDepth 20000 in
theorem load_52 (w : World) (s : MS) (h : MemW w s) (S T D A imm : Int) (a old : Nat) (ha : a < 4294967296) (ho : old < 4294967296) : Calls Try.prog 15 #[.pointer (some ⟨s.mb, 0, none⟩), .agg (insC 52 S T D A imm), .int .u32 (a : Int), .int .u32 (old : Int)] w fun e w' => e = .returned (.int .u32 (loadN s 52 a old : Int)) ∧ Below w.heap.size w w' := by
  have hB := hidden (below_new w (.cells (insC 52 S T D A imm) 31))
  have HM := hidden (h.alloc (.cells (insC 52 S T D A imm) 31))
  have HW := hidden (peek_any _ s a HM.out ha)
  rw [show loadN s 52 a old = byteN s a from rfl]
  have b1 := byteN_lt s a
  change Hid (Calls Try.prog 39 _ _ fun e w' => e = .returned (.int .u8 (byteN s a : Int)) ∧ _) at HW
  generalize byteN s a = x at *
  clear h
  go_enter Try.func15, Try.ntmps15
  go_wp2_with (go_at_call 39; refine HW.out.mono ?_; rintro e w2 ⟨rfl, n2, hww2⟩; rw [hww2]; clear hww2 w2)
  go_ret
  exact ⟨ret_int (by omega), below_drewN hB.out n2⟩
set_option maxRecDepth 20000 in
theorem load_53 (w : World) (s : MS) (h : MemW w s) (S T D A imm : Int) (a old : Nat) (ha : a < 4294967296) (ho : old < 4294967296) : Calls Try.prog 15 #[.pointer (some ⟨s.mb, 0, none⟩), .agg (insC 53 S T D A imm), .int .u32 (a : Int), .int .u32 (old : Int)] w fun e w' => e = .returned (.int .u32 (loadN s 53 a old : Int)) ∧ Below w.heap.size w w' := by
  have hB := hidden (below_new w (.cells (insC 53 S T D A imm) 31))
  have HM := hidden (h.alloc (.cells (insC 53 S T D A imm) 31))
  have HW := hidden (half_any _ s HM.out a ha)
  rw [show loadN s 53 a old = halfN s a from rfl]
  have b1 := halfN_lt s a
  generalize halfN s a = x at *
  clear h
  go_enter Try.func15, Try.ntmps15
  go_wp2_with (go_at_call 40; refine HW.out.mono ?_; rintro e w2 ⟨rfl, n2, hww2⟩; rw [hww2]; clear hww2 w2)
  go_ret
  exact ⟨ret_int (by omega), below_drewN hB.out n2⟩
set_option maxRecDepth 20000 in
theorem load_51 (w : World) (s : MS) (h : MemW w s) (S T D A imm : Int) (a old : Nat) (ha : a < 4294967296) (ho : old < 4294967296) : Calls Try.prog 15 #[.pointer (some ⟨s.mb, 0, none⟩), .agg (insC 51 S T D A imm), .int .u32 (a : Int), .int .u32 (old : Int)] w fun e w' => e = .returned (.int .u32 (loadN s 51 a old : Int)) ∧ Below w.heap.size w w' := by
  have hB := hidden (below_new w (.cells (insC 51 S T D A imm) 31))
  have HM := hidden (h.alloc (.cells (insC 51 S T D A imm) 31))
  have HW := hidden (word_any _ s a HM.out ha)
  rw [show loadN s 51 a old = preW s a 4 from rfl]
  clear h
  go_enter Try.func15, Try.ntmps15
  go_wp2_with (go_at_call 23; refine HW.out.mono ?_; rintro e w2 ⟨rfl, n2, hww2⟩; rw [hww2]; clear hww2 w2)
  go_ret
  exact ⟨rfl, below_drewN hB.out n2⟩
set_option maxRecDepth 20000 in
theorem load_48 (w : World) (s : MS) (h : MemW w s) (S T D A imm : Int) (a old : Nat) (ha : a < 4294967296) (ho : old < 4294967296) : Calls Try.prog 15 #[.pointer (some ⟨s.mb, 0, none⟩), .agg (insC 48 S T D A imm), .int .u32 (a : Int), .int .u32 (old : Int)] w fun e w' => e = .returned (.int .u32 (loadN s 48 a old : Int)) ∧ Below w.heap.size w w' := by
  have hB := hidden (below_new w (.cells (insC 48 S T D A imm) 31))
  have HM := hidden (h.alloc (.cells (insC 48 S T D A imm) 31))
  have HW := hidden (peek_any _ s a HM.out ha)
  rw [show loadN s 48 a old = (if byteN s a < 128 then byteN s a else byteN s a + 4294967040) from rfl]
  have b1 := byteN_lt s a
  change Hid (Calls Try.prog 39 _ _ fun e w' => e = .returned (.int .u8 (byteN s a : Int)) ∧ _) at HW
  generalize byteN s a = x at *
  obtain ⟨r, hr0⟩ : ∃ r, r = (if x < 128 then x else x + 4294967040) := ⟨_, rfl⟩
  rw [← hr0]
  have hr := hidden hr0
  clear hr0
  clear h
  go_enter Try.func15, Try.ntmps15
  go_wp2_with (go_at_call 39; refine HW.out.mono ?_; rintro e w2 ⟨rfl, n2, hww2⟩; rw [hww2]; clear hww2 w2)
  go_ret
  exact ⟨ret_int (sx8 b1 hr.out), below_drewN hB.out n2⟩
set_option maxRecDepth 20000 in
theorem load_49 (w : World) (s : MS) (h : MemW w s) (S T D A imm : Int) (a old : Nat) (ha : a < 4294967296) (ho : old < 4294967296) : Calls Try.prog 15 #[.pointer (some ⟨s.mb, 0, none⟩), .agg (insC 49 S T D A imm), .int .u32 (a : Int), .int .u32 (old : Int)] w fun e w' => e = .returned (.int .u32 (loadN s 49 a old : Int)) ∧ Below w.heap.size w w' := by
  have hB := hidden (below_new w (.cells (insC 49 S T D A imm) 31))
  have HM := hidden (h.alloc (.cells (insC 49 S T D A imm) 31))
  have HW := hidden (half_any _ s HM.out a ha)
  rw [show loadN s 49 a old = (if halfN s a < 32768 then halfN s a else halfN s a + 4294901760) from rfl]
  have b1 := halfN_lt s a
  generalize halfN s a = x at *
  obtain ⟨r, hr0⟩ : ∃ r, r = (if x < 32768 then x else x + 4294901760) := ⟨_, rfl⟩
  rw [← hr0]
  have hr := hidden hr0
  clear hr0
  clear h
  go_enter Try.func15, Try.ntmps15
  go_wp2_with (go_at_call 40; refine HW.out.mono ?_; rintro e w2 ⟨rfl, n2, hww2⟩; rw [hww2]; clear hww2 w2)
  go_ret
  exact ⟨ret_int (sx16 b1 hr.out), below_drewN hB.out n2⟩
set_option maxRecDepth 20000 in
theorem load_lwl0 (w : World) (s : MS) (h : MemW w s) (S T D A imm : Int) (q old : Nat) (ha : 4 * q + 0 < 4294967296) (ho : old < 4294967296) : Calls Try.prog 15 #[.pointer (some ⟨s.mb, 0, none⟩), .agg (insC 50 S T D A imm), .int .u32 ((4 * q + 0 : Nat) : Int), .int .u32 (old : Int)] w fun e w' => e = .returned (.int .u32 (lwlN 0 (preW s (4 * q) 4) old : Int)) ∧ Below w.heap.size w w' := by
  have hB := hidden (below_new w (.cells (insC 50 S T D A imm) 31))
  have HM := hidden (h.alloc (.cells (insC 50 S T D A imm) 31))
  have e1 : ((4 * q + 0 : Nat) : Int) % 4 = 0 := by omega
  have e2 : ((4 * q + 0 : Nat) : Int) - 0 = ((4 * q : Nat) : Int) := by omega
  have HW := hidden (word_any _ s (4 * q) HM.out (by omega))
  have hw := wordN_lt s (4 * q)
  have hc := code_lwl0 (preW s (4 * q) 4) old hw ho
  rw [Nat.mul_one, Nat.mod_eq_of_lt hw] at hc
  generalize preW s (4 * q) 4 = x at *
  obtain ⟨a, hq⟩ : ∃ a, a = 4 * q + 0 := ⟨_, rfl⟩
  rw [← hq] at ha e1 e2 ⊢
  obtain ⟨p, hp⟩ : ∃ p, p = 4 * q := ⟨_, rfl⟩
  rw [← hp] at e2 HW
  clear h hq hp
  go_enter Try.func15, Try.ntmps15
  go_wp2_with (go_at_call 23; refine HW.out.mono ?_; rintro e w2 ⟨rfl, n2, hww2⟩; rw [hww2]; clear hww2 w2)
  go_ret
  exact ⟨ret_int rfl, below_drewN hB.out n2⟩
set_option maxRecDepth 20000 in
theorem load_lwl1 (w : World) (s : MS) (h : MemW w s) (S T D A imm : Int) (q old : Nat) (ha : 4 * q + 1 < 4294967296) (ho : old < 4294967296) : Calls Try.prog 15 #[.pointer (some ⟨s.mb, 0, none⟩), .agg (insC 50 S T D A imm), .int .u32 ((4 * q + 1 : Nat) : Int), .int .u32 (old : Int)] w fun e w' => e = .returned (.int .u32 (lwlN 1 (preW s (4 * q) 4) old : Int)) ∧ Below w.heap.size w w' := by
  have hB := hidden (below_new w (.cells (insC 50 S T D A imm) 31))
  have HM := hidden (h.alloc (.cells (insC 50 S T D A imm) 31))
  have e1 : ((4 * q + 1 : Nat) : Int) % 4 = 1 := by omega
  have e2 : ((4 * q + 1 : Nat) : Int) - 1 = ((4 * q : Nat) : Int) := by omega
  have HW := hidden (word_any _ s (4 * q) HM.out (by omega))
  have hw := wordN_lt s (4 * q)
  have hc := code_lwl1 (preW s (4 * q) 4) old hw ho
  generalize preW s (4 * q) 4 = x at *
  obtain ⟨a, hq⟩ : ∃ a, a = 4 * q + 1 := ⟨_, rfl⟩
  rw [← hq] at ha e1 e2 ⊢
  obtain ⟨p, hp⟩ : ∃ p, p = 4 * q := ⟨_, rfl⟩
  rw [← hp] at e2 HW
  clear h hq hp
  go_enter Try.func15, Try.ntmps15
  go_wp2_with (go_at_call 23; refine HW.out.mono ?_; rintro e w2 ⟨rfl, n2, hww2⟩; rw [hww2]; clear hww2 w2)
  go_ret
  exact ⟨ret_int hc, below_drewN hB.out n2⟩
set_option maxRecDepth 20000 in
theorem load_lwl2 (w : World) (s : MS) (h : MemW w s) (S T D A imm : Int) (q old : Nat) (ha : 4 * q + 2 < 4294967296) (ho : old < 4294967296) : Calls Try.prog 15 #[.pointer (some ⟨s.mb, 0, none⟩), .agg (insC 50 S T D A imm), .int .u32 ((4 * q + 2 : Nat) : Int), .int .u32 (old : Int)] w fun e w' => e = .returned (.int .u32 (lwlN 2 (preW s (4 * q) 4) old : Int)) ∧ Below w.heap.size w w' := by
  have hB := hidden (below_new w (.cells (insC 50 S T D A imm) 31))
  have HM := hidden (h.alloc (.cells (insC 50 S T D A imm) 31))
  have e1 : ((4 * q + 2 : Nat) : Int) % 4 = 2 := by omega
  have e2 : ((4 * q + 2 : Nat) : Int) - 2 = ((4 * q : Nat) : Int) := by omega
  have HW := hidden (word_any _ s (4 * q) HM.out (by omega))
  have hw := wordN_lt s (4 * q)
  have hc := code_lwl2 (preW s (4 * q) 4) old hw ho
  generalize preW s (4 * q) 4 = x at *
  obtain ⟨a, hq⟩ : ∃ a, a = 4 * q + 2 := ⟨_, rfl⟩
  rw [← hq] at ha e1 e2 ⊢
  obtain ⟨p, hp⟩ : ∃ p, p = 4 * q := ⟨_, rfl⟩
  rw [← hp] at e2 HW
  clear h hq hp
  go_enter Try.func15, Try.ntmps15
  go_wp2_with (go_at_call 23; refine HW.out.mono ?_; rintro e w2 ⟨rfl, n2, hww2⟩; rw [hww2]; clear hww2 w2)
  go_ret
  exact ⟨ret_int hc, below_drewN hB.out n2⟩
set_option maxRecDepth 20000 in
theorem load_lwl3 (w : World) (s : MS) (h : MemW w s) (S T D A imm : Int) (q old : Nat) (ha : 4 * q + 3 < 4294967296) (ho : old < 4294967296) : Calls Try.prog 15 #[.pointer (some ⟨s.mb, 0, none⟩), .agg (insC 50 S T D A imm), .int .u32 ((4 * q + 3 : Nat) : Int), .int .u32 (old : Int)] w fun e w' => e = .returned (.int .u32 (lwlN 3 (preW s (4 * q) 4) old : Int)) ∧ Below w.heap.size w w' := by
  have hB := hidden (below_new w (.cells (insC 50 S T D A imm) 31))
  have HM := hidden (h.alloc (.cells (insC 50 S T D A imm) 31))
  have e1 : ((4 * q + 3 : Nat) : Int) % 4 = 3 := by omega
  have e2 : ((4 * q + 3 : Nat) : Int) - 3 = ((4 * q : Nat) : Int) := by omega
  have HW := hidden (word_any _ s (4 * q) HM.out (by omega))
  have hw := wordN_lt s (4 * q)
  have hc := code_lwl3 (preW s (4 * q) 4) old hw ho
  generalize preW s (4 * q) 4 = x at *
  obtain ⟨a, hq⟩ : ∃ a, a = 4 * q + 3 := ⟨_, rfl⟩
  rw [← hq] at ha e1 e2 ⊢
  obtain ⟨p, hp⟩ : ∃ p, p = 4 * q := ⟨_, rfl⟩
  rw [← hp] at e2 HW
  clear h hq hp
  go_enter Try.func15, Try.ntmps15
  go_wp2_with (go_at_call 23; refine HW.out.mono ?_; rintro e w2 ⟨rfl, n2, hww2⟩; rw [hww2]; clear hww2 w2)
  go_ret
  exact ⟨ret_int hc, below_drewN hB.out n2⟩
set_option maxRecDepth 20000 in
theorem load_lwr0 (w : World) (s : MS) (h : MemW w s) (S T D A imm : Int) (q old : Nat) (ha : 4 * q + 0 < 4294967296) (ho : old < 4294967296) : Calls Try.prog 15 #[.pointer (some ⟨s.mb, 0, none⟩), .agg (insC 54 S T D A imm), .int .u32 ((4 * q + 0 : Nat) : Int), .int .u32 (old : Int)] w fun e w' => e = .returned (.int .u32 (lwrN 0 (preW s (4 * q) 4) old : Int)) ∧ Below w.heap.size w w' := by
  have hB := hidden (below_new w (.cells (insC 54 S T D A imm) 31))
  have HM := hidden (h.alloc (.cells (insC 54 S T D A imm) 31))
  have e1 : ((4 * q + 0 : Nat) : Int) % 4 = 0 := by omega
  have e2 : ((4 * q + 0 : Nat) : Int) - 0 = ((4 * q : Nat) : Int) := by omega
  have HW := hidden (word_any _ s (4 * q) HM.out (by omega))
  have hw := wordN_lt s (4 * q)
  have hc := code_lwr0 (preW s (4 * q) 4) old hw ho
  generalize preW s (4 * q) 4 = x at *
  obtain ⟨a, hq⟩ : ∃ a, a = 4 * q + 0 := ⟨_, rfl⟩
  rw [← hq] at ha e1 e2 ⊢
  obtain ⟨p, hp⟩ : ∃ p, p = 4 * q := ⟨_, rfl⟩
  rw [← hp] at e2 HW
  clear h hq hp
  go_enter Try.func15, Try.ntmps15
  go_wp2_with (go_at_call 23; refine HW.out.mono ?_; rintro e w2 ⟨rfl, n2, hww2⟩; rw [hww2]; clear hww2 w2)
  go_ret
  exact ⟨ret_int hc, below_drewN hB.out n2⟩
set_option maxRecDepth 20000 in
theorem load_lwr1 (w : World) (s : MS) (h : MemW w s) (S T D A imm : Int) (q old : Nat) (ha : 4 * q + 1 < 4294967296) (ho : old < 4294967296) : Calls Try.prog 15 #[.pointer (some ⟨s.mb, 0, none⟩), .agg (insC 54 S T D A imm), .int .u32 ((4 * q + 1 : Nat) : Int), .int .u32 (old : Int)] w fun e w' => e = .returned (.int .u32 (lwrN 1 (preW s (4 * q) 4) old : Int)) ∧ Below w.heap.size w w' := by
  have hB := hidden (below_new w (.cells (insC 54 S T D A imm) 31))
  have HM := hidden (h.alloc (.cells (insC 54 S T D A imm) 31))
  have e1 : ((4 * q + 1 : Nat) : Int) % 4 = 1 := by omega
  have e2 : ((4 * q + 1 : Nat) : Int) - 1 = ((4 * q : Nat) : Int) := by omega
  have HW := hidden (word_any _ s (4 * q) HM.out (by omega))
  have hw := wordN_lt s (4 * q)
  have hc := code_lwr1 (preW s (4 * q) 4) old hw ho
  generalize preW s (4 * q) 4 = x at *
  obtain ⟨a, hq⟩ : ∃ a, a = 4 * q + 1 := ⟨_, rfl⟩
  rw [← hq] at ha e1 e2 ⊢
  obtain ⟨p, hp⟩ : ∃ p, p = 4 * q := ⟨_, rfl⟩
  rw [← hp] at e2 HW
  clear h hq hp
  go_enter Try.func15, Try.ntmps15
  go_wp2_with (go_at_call 23; refine HW.out.mono ?_; rintro e w2 ⟨rfl, n2, hww2⟩; rw [hww2]; clear hww2 w2)
  go_ret
  exact ⟨ret_int hc, below_drewN hB.out n2⟩
set_option maxRecDepth 20000 in
theorem load_lwr2 (w : World) (s : MS) (h : MemW w s) (S T D A imm : Int) (q old : Nat) (ha : 4 * q + 2 < 4294967296) (ho : old < 4294967296) : Calls Try.prog 15 #[.pointer (some ⟨s.mb, 0, none⟩), .agg (insC 54 S T D A imm), .int .u32 ((4 * q + 2 : Nat) : Int), .int .u32 (old : Int)] w fun e w' => e = .returned (.int .u32 (lwrN 2 (preW s (4 * q) 4) old : Int)) ∧ Below w.heap.size w w' := by
  have hB := hidden (below_new w (.cells (insC 54 S T D A imm) 31))
  have HM := hidden (h.alloc (.cells (insC 54 S T D A imm) 31))
  have e1 : ((4 * q + 2 : Nat) : Int) % 4 = 2 := by omega
  have e2 : ((4 * q + 2 : Nat) : Int) - 2 = ((4 * q : Nat) : Int) := by omega
  have HW := hidden (word_any _ s (4 * q) HM.out (by omega))
  have hw := wordN_lt s (4 * q)
  have hc := code_lwr2 (preW s (4 * q) 4) old hw ho
  generalize preW s (4 * q) 4 = x at *
  obtain ⟨a, hq⟩ : ∃ a, a = 4 * q + 2 := ⟨_, rfl⟩
  rw [← hq] at ha e1 e2 ⊢
  obtain ⟨p, hp⟩ : ∃ p, p = 4 * q := ⟨_, rfl⟩
  rw [← hp] at e2 HW
  clear h hq hp
  go_enter Try.func15, Try.ntmps15
  go_wp2_with (go_at_call 23; refine HW.out.mono ?_; rintro e w2 ⟨rfl, n2, hww2⟩; rw [hww2]; clear hww2 w2)
  go_ret
  exact ⟨ret_int hc, below_drewN hB.out n2⟩
set_option maxRecDepth 20000 in
theorem load_lwr3 (w : World) (s : MS) (h : MemW w s) (S T D A imm : Int) (q old : Nat) (ha : 4 * q + 3 < 4294967296) (ho : old < 4294967296) : Calls Try.prog 15 #[.pointer (some ⟨s.mb, 0, none⟩), .agg (insC 54 S T D A imm), .int .u32 ((4 * q + 3 : Nat) : Int), .int .u32 (old : Int)] w fun e w' => e = .returned (.int .u32 (lwrN 3 (preW s (4 * q) 4) old : Int)) ∧ Below w.heap.size w w' := by
  have hB := hidden (below_new w (.cells (insC 54 S T D A imm) 31))
  have HM := hidden (h.alloc (.cells (insC 54 S T D A imm) 31))
  have e1 : ((4 * q + 3 : Nat) : Int) % 4 = 3 := by omega
  have e2 : ((4 * q + 3 : Nat) : Int) - 3 = ((4 * q : Nat) : Int) := by omega
  have HW := hidden (word_any _ s (4 * q) HM.out (by omega))
  have hw := wordN_lt s (4 * q)
  have hc := code_lwr3 (preW s (4 * q) 4) old hw ho
  rw [Nat.div_one] at hc
  generalize preW s (4 * q) 4 = x at *
  obtain ⟨a, hq⟩ : ∃ a, a = 4 * q + 3 := ⟨_, rfl⟩
  rw [← hq] at ha e1 e2 ⊢
  obtain ⟨p, hp⟩ : ∃ p, p = 4 * q := ⟨_, rfl⟩
  rw [← hp] at e2 HW
  clear h hq hp
  go_enter Try.func15, Try.ntmps15
  go_wp2_with (go_at_call 23; refine HW.out.mono ?_; rintro e w2 ⟨rfl, n2, hww2⟩; rw [hww2]; clear hww2 w2)
  go_ret
  exact ⟨ret_int rfl, below_drewN hB.out n2⟩
end Go.Proofs.Ytkpcajmphhdmiaa
namespace Go.Proofs.Ytkpcajmphhdmiaa
open Go.ChangeShapes Go.WideShapes Go.ChangeAt Go.RowKit
set_option linter.unusedVariables false
set_option maxRecDepth 20000 in
theorem load_other (w : World) (s : MS) (op S T D A imm : Int) (h1 : (op == 48) = false) (h2 : (op == 52) = false) (h3 : (op == 49) = false) (h4 : (op == 53) = false) (h5 : (op == 51) = false) (h6 : (op == 50) = false) (h7 : (op == 54) = false) (a old : Nat) : Calls Try.prog 15 #[.pointer (some ⟨s.mb, 0, none⟩), .agg (insC op S T D A imm), .int .u32 (a : Int), .int .u32 (old : Int)] w fun e w' => e = .returned (.int .u32 (old : Int)) ∧ Below w.heap.size w w' := by
  have hB := hidden (below_new w (.cells (insC op S T D A imm) 31))
  go_enter Try.func15, Try.ntmps15
  go_wp2
  go_ret
  exact ⟨rfl, hB.out⟩
theorem accLoad_any (w : World) (s : MS) (h : MemW w s) (op S T D A imm : Int) (a old : Nat) (ha : a < 4294967296) (ho : old < 4294967296) : Calls Try.prog 15 #[.pointer (some ⟨s.mb, 0, none⟩), .agg (insC op S T D A imm), .int .u32 (a : Int), .int .u32 (old : Int)] w fun e w' => e = .returned (.int .u32 (loadN s op a old : Int)) ∧ Below w.heap.size w w' := by
  by_cases h48 : op = 48
  · subst h48; exact load_48 w s h S T D A imm a old ha ho
  by_cases h52 : op = 52
  · subst h52; exact load_52 w s h S T D A imm a old ha ho
  by_cases h49 : op = 49
  · subst h49; exact load_49 w s h S T D A imm a old ha ho
  by_cases h53 : op = 53
  · subst h53; exact load_53 w s h S T D A imm a old ha ho
  by_cases h51 : op = 51
  · subst h51; exact load_51 w s h S T D A imm a old ha ho
  have hq : a = 4 * (a / 4) + a % 4 := by omega
  have hq4 : a - a % 4 = 4 * (a / 4) := by omega
  by_cases h50 : op = 50
  · subst h50
    rw [show loadN s 50 a old = lwlN (a % 4) (preW s (a - a % 4) 4) old from rfl, hq4]
    generalize a / 4 = q at hq hq4 ⊢
    rcases (show a % 4 = 0 ∨ a % 4 = 1 ∨ a % 4 = 2 ∨ a % 4 = 3 by omega) with e | e | e | e
    · rw [e] at hq ⊢; subst hq; exact load_lwl0 w s h S T D A imm q old ha ho
    · rw [e] at hq ⊢; subst hq; exact load_lwl1 w s h S T D A imm q old ha ho
    · rw [e] at hq ⊢; subst hq; exact load_lwl2 w s h S T D A imm q old ha ho
    · rw [e] at hq ⊢; subst hq; exact load_lwl3 w s h S T D A imm q old ha ho
  by_cases h54 : op = 54
  · subst h54
    rw [show loadN s 54 a old = lwrN (a % 4) (preW s (a - a % 4) 4) old from rfl, hq4]
    generalize a / 4 = q at hq hq4 ⊢
    rcases (show a % 4 = 0 ∨ a % 4 = 1 ∨ a % 4 = 2 ∨ a % 4 = 3 by omega) with e | e | e | e
    · rw [e] at hq ⊢; subst hq; exact load_lwr0 w s h S T D A imm q old ha ho
    · rw [e] at hq ⊢; subst hq; exact load_lwr1 w s h S T D A imm q old ha ho
    · rw [e] at hq ⊢; subst hq; exact load_lwr2 w s h S T D A imm q old ha ho
    · rw [e] at hq ⊢; subst hq; exact load_lwr3 w s h S T D A imm q old ha ho
  have e : loadN s op a old = old := by unfold loadN; rw [if_neg h48, if_neg h52, if_neg h49, if_neg h53, if_neg h51, if_neg h50, if_neg h54]
  rw [e]
  exact load_other w s op S T D A imm (beq_eq_false_iff_ne.2 h48) (beq_eq_false_iff_ne.2 h52) (beq_eq_false_iff_ne.2 h49) (beq_eq_false_iff_ne.2 h53) (beq_eq_false_iff_ne.2 h51) (beq_eq_false_iff_ne.2 h50) (beq_eq_false_iff_ne.2 h54) a old
end Go.Proofs.Ytkpcajmphhdmiaa
