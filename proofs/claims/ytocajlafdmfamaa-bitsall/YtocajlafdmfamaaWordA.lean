/- What Word answers, at any place of any bytes, case by case. -/
import Derived.Test.YtocajlafdmfamaaBits
import Derived.Test.YtocajlafdmfamaaWordLaws
import Derived.Handy
namespace Go.Proofs.Ytocajlafdmfamaa
open Go.ChangeShapes Go.WideShapes Go.ChangeAt Go.RowKit
set_option linter.unusedVariables false
theorem ix0 (u0 u1 u2 u3 : Value) (w : World) : (Instr.index 28 (.agg #[u0, u1, u2, u3]) (.int .i64 0)).run Try.prog w = .ok u0 w := by kernel_rfl
theorem ix1 (u0 u1 u2 u3 : Value) (w : World) : (Instr.index 28 (.agg #[u0, u1, u2, u3]) (.int .i64 1)).run Try.prog w = .ok u1 w := by kernel_rfl
theorem ix2 (u0 u1 u2 u3 : Value) (w : World) : (Instr.index 28 (.agg #[u0, u1, u2, u3]) (.int .i64 2)).run Try.prog w = .ok u2 w := by kernel_rfl
theorem ix3 (u0 u1 u2 u3 : Value) (w : World) : (Instr.index 28 (.agg #[u0, u1, u2, u3]) (.int .i64 3)).run Try.prog w = .ok u3 w := by kernel_rfl
set_option maxHeartbeats 2000000 in
theorem word_A (a : Option Addr) (len cap : Nat) (p : Int) (w : World) (hl : len ≤ 140737488351232) (hlow : -9223372036854775808 ≤ p) (h0 : p ≤ -4) :
    Calls Try.prog 31 #[.slice (a) len cap, .int .i64 p] w fun e w' => e = .returned (.int .u32 (word4 0 0 0 0)) ∧ w' = w.alloc (.cells #[.int .u8 (0), .int .u8 (0), .int .u8 (0), .int .u8 (0)] 28) := by
  have i0 := ix0
  have i1 := ix1
  have i2 := ix2
  have i3 := ix3
  go_enter Try.func31, Try.ntmps31
  go_wp2
  go_rounds 5
  go_rounds 5
  go_ret
  exact ⟨ret_int (word_or 0 0 0 0 zero_byte zero_byte zero_byte zero_byte), rfl⟩
set_option maxHeartbeats 2000000 in
theorem word_L10 (a : Option Addr) (len cap : Nat) (p : Int) (w : World) (hl : len ≤ 140737488351232) (hlow : -9223372036854775808 ≤ p) (h0 : -1 ≤ p) (h1 : p ≤ -1) (h2 : len ≤ 0) (h3 : 0 ≤ len) :
    Calls Try.prog 31 #[.slice (a) len cap, .int .i64 p] w fun e w' => e = .returned (.int .u32 (word4 0 0 0 0)) ∧ w' = w.alloc (.cells #[.int .u8 (0), .int .u8 (0), .int .u8 (0), .int .u8 (0)] 28) := by
  have i0 := ix0
  have i1 := ix1
  have i2 := ix2
  have i3 := ix3
  go_enter Try.func31, Try.ntmps31
  go_wp2
  go_rounds 5
  go_rounds 5
  go_ret
  exact ⟨ret_int (word_or 0 0 0 0 zero_byte zero_byte zero_byte zero_byte), rfl⟩
set_option maxHeartbeats 2000000 in
theorem word_L11 (b off : Nat) (len cap : Nat) (p : Int) (w : World) (hl : len ≤ 140737488351232) (hlow : -9223372036854775808 ≤ p) (hb : b < w.heap.size) (h0 : -1 ≤ p) (h1 : p ≤ -1) (h2 : len ≤ 1) (h3 : 1 ≤ len) (x1 : Int) (b1 : 0 ≤ x1 ∧ x1 ≤ 255) (c1 : w.cell? ⟨b, off + (p + 1).toNat, none⟩ = some (.int .u8 x1)) :
    Calls Try.prog 31 #[.slice (some ⟨b, off, none⟩) len cap, .int .i64 p] w fun e w' => e = .returned (.int .u32 (word4 0 x1 0 0)) ∧ w' = w.alloc (.cells #[.int .u8 (0), .int .u8 (x1), .int .u8 (0), .int .u8 (0)] 28) := by
  have i0 := ix0
  have i1 := ix1
  have i2 := ix2
  have i3 := ix3
  go_enter Try.func31, Try.ntmps31
  go_wp2
  go_rounds 5
  go_rounds 5
  go_ret
  exact ⟨ret_int (word_or 0 x1 0 0 zero_byte b1 zero_byte zero_byte), rfl⟩
set_option maxHeartbeats 2000000 in
theorem word_L12 (b off : Nat) (len cap : Nat) (p : Int) (w : World) (hl : len ≤ 140737488351232) (hlow : -9223372036854775808 ≤ p) (hb : b < w.heap.size) (h0 : -1 ≤ p) (h1 : p ≤ -1) (h2 : len ≤ 2) (h3 : 2 ≤ len) (x1 : Int) (b1 : 0 ≤ x1 ∧ x1 ≤ 255) (c1 : w.cell? ⟨b, off + (p + 1).toNat, none⟩ = some (.int .u8 x1)) (x2 : Int) (b2 : 0 ≤ x2 ∧ x2 ≤ 255) (c2 : w.cell? ⟨b, off + (p + 2).toNat, none⟩ = some (.int .u8 x2)) :
    Calls Try.prog 31 #[.slice (some ⟨b, off, none⟩) len cap, .int .i64 p] w fun e w' => e = .returned (.int .u32 (word4 0 x1 x2 0)) ∧ w' = w.alloc (.cells #[.int .u8 (0), .int .u8 (x1), .int .u8 (x2), .int .u8 (0)] 28) := by
  have i0 := ix0
  have i1 := ix1
  have i2 := ix2
  have i3 := ix3
  go_enter Try.func31, Try.ntmps31
  go_wp2
  go_rounds 5
  go_rounds 5
  go_ret
  exact ⟨ret_int (word_or 0 x1 x2 0 zero_byte b1 b2 zero_byte), rfl⟩
set_option maxHeartbeats 2000000 in
theorem word_L13 (b off : Nat) (len cap : Nat) (p : Int) (w : World) (hl : len ≤ 140737488351232) (hlow : -9223372036854775808 ≤ p) (hb : b < w.heap.size) (h0 : -1 ≤ p) (h1 : p ≤ -1) (h2 : 3 ≤ len) (x1 : Int) (b1 : 0 ≤ x1 ∧ x1 ≤ 255) (c1 : w.cell? ⟨b, off + (p + 1).toNat, none⟩ = some (.int .u8 x1)) (x2 : Int) (b2 : 0 ≤ x2 ∧ x2 ≤ 255) (c2 : w.cell? ⟨b, off + (p + 2).toNat, none⟩ = some (.int .u8 x2)) (x3 : Int) (b3 : 0 ≤ x3 ∧ x3 ≤ 255) (c3 : w.cell? ⟨b, off + (p + 3).toNat, none⟩ = some (.int .u8 x3)) :
    Calls Try.prog 31 #[.slice (some ⟨b, off, none⟩) len cap, .int .i64 p] w fun e w' => e = .returned (.int .u32 (word4 0 x1 x2 x3)) ∧ w' = w.alloc (.cells #[.int .u8 (0), .int .u8 (x1), .int .u8 (x2), .int .u8 (x3)] 28) := by
  have i0 := ix0
  have i1 := ix1
  have i2 := ix2
  have i3 := ix3
  go_enter Try.func31, Try.ntmps31
  go_wp2
  go_rounds 5
  go_rounds 5
  go_ret
  exact ⟨ret_int (word_or 0 x1 x2 x3 zero_byte b1 b2 b3), rfl⟩
set_option maxHeartbeats 2000000 in
theorem word_L20 (a : Option Addr) (len cap : Nat) (p : Int) (w : World) (hl : len ≤ 140737488351232) (hlow : -9223372036854775808 ≤ p) (h0 : -2 ≤ p) (h1 : p ≤ -2) (h2 : len ≤ 0) (h3 : 0 ≤ len) :
    Calls Try.prog 31 #[.slice (a) len cap, .int .i64 p] w fun e w' => e = .returned (.int .u32 (word4 0 0 0 0)) ∧ w' = w.alloc (.cells #[.int .u8 (0), .int .u8 (0), .int .u8 (0), .int .u8 (0)] 28) := by
  have i0 := ix0
  have i1 := ix1
  have i2 := ix2
  have i3 := ix3
  go_enter Try.func31, Try.ntmps31
  go_wp2
  go_rounds 5
  go_rounds 5
  go_ret
  exact ⟨ret_int (word_or 0 0 0 0 zero_byte zero_byte zero_byte zero_byte), rfl⟩
set_option maxHeartbeats 2000000 in
theorem word_L21 (b off : Nat) (len cap : Nat) (p : Int) (w : World) (hl : len ≤ 140737488351232) (hlow : -9223372036854775808 ≤ p) (hb : b < w.heap.size) (h0 : -2 ≤ p) (h1 : p ≤ -2) (h2 : len ≤ 1) (h3 : 1 ≤ len) (x2 : Int) (b2 : 0 ≤ x2 ∧ x2 ≤ 255) (c2 : w.cell? ⟨b, off + (p + 2).toNat, none⟩ = some (.int .u8 x2)) :
    Calls Try.prog 31 #[.slice (some ⟨b, off, none⟩) len cap, .int .i64 p] w fun e w' => e = .returned (.int .u32 (word4 0 0 x2 0)) ∧ w' = w.alloc (.cells #[.int .u8 (0), .int .u8 (0), .int .u8 (x2), .int .u8 (0)] 28) := by
  have i0 := ix0
  have i1 := ix1
  have i2 := ix2
  have i3 := ix3
  go_enter Try.func31, Try.ntmps31
  go_wp2
  go_rounds 5
  go_rounds 5
  go_ret
  exact ⟨ret_int (word_or 0 0 x2 0 zero_byte zero_byte b2 zero_byte), rfl⟩
set_option maxHeartbeats 2000000 in
theorem word_L22 (b off : Nat) (len cap : Nat) (p : Int) (w : World) (hl : len ≤ 140737488351232) (hlow : -9223372036854775808 ≤ p) (hb : b < w.heap.size) (h0 : -2 ≤ p) (h1 : p ≤ -2) (h2 : 2 ≤ len) (x2 : Int) (b2 : 0 ≤ x2 ∧ x2 ≤ 255) (c2 : w.cell? ⟨b, off + (p + 2).toNat, none⟩ = some (.int .u8 x2)) (x3 : Int) (b3 : 0 ≤ x3 ∧ x3 ≤ 255) (c3 : w.cell? ⟨b, off + (p + 3).toNat, none⟩ = some (.int .u8 x3)) :
    Calls Try.prog 31 #[.slice (some ⟨b, off, none⟩) len cap, .int .i64 p] w fun e w' => e = .returned (.int .u32 (word4 0 0 x2 x3)) ∧ w' = w.alloc (.cells #[.int .u8 (0), .int .u8 (0), .int .u8 (x2), .int .u8 (x3)] 28) := by
  have i0 := ix0
  have i1 := ix1
  have i2 := ix2
  have i3 := ix3
  go_enter Try.func31, Try.ntmps31
  go_wp2
  go_rounds 5
  go_rounds 5
  go_ret
  exact ⟨ret_int (word_or 0 0 x2 x3 zero_byte zero_byte b2 b3), rfl⟩
set_option maxHeartbeats 2000000 in
theorem word_L30 (a : Option Addr) (len cap : Nat) (p : Int) (w : World) (hl : len ≤ 140737488351232) (hlow : -9223372036854775808 ≤ p) (h0 : -3 ≤ p) (h1 : p ≤ -3) (h2 : len ≤ 0) (h3 : 0 ≤ len) :
    Calls Try.prog 31 #[.slice (a) len cap, .int .i64 p] w fun e w' => e = .returned (.int .u32 (word4 0 0 0 0)) ∧ w' = w.alloc (.cells #[.int .u8 (0), .int .u8 (0), .int .u8 (0), .int .u8 (0)] 28) := by
  have i0 := ix0
  have i1 := ix1
  have i2 := ix2
  have i3 := ix3
  go_enter Try.func31, Try.ntmps31
  go_wp2
  go_rounds 5
  go_rounds 5
  go_ret
  exact ⟨ret_int (word_or 0 0 0 0 zero_byte zero_byte zero_byte zero_byte), rfl⟩
set_option maxHeartbeats 2000000 in
theorem word_L31 (b off : Nat) (len cap : Nat) (p : Int) (w : World) (hl : len ≤ 140737488351232) (hlow : -9223372036854775808 ≤ p) (hb : b < w.heap.size) (h0 : -3 ≤ p) (h1 : p ≤ -3) (h2 : 1 ≤ len) (x3 : Int) (b3 : 0 ≤ x3 ∧ x3 ≤ 255) (c3 : w.cell? ⟨b, off + (p + 3).toNat, none⟩ = some (.int .u8 x3)) :
    Calls Try.prog 31 #[.slice (some ⟨b, off, none⟩) len cap, .int .i64 p] w fun e w' => e = .returned (.int .u32 (word4 0 0 0 x3)) ∧ w' = w.alloc (.cells #[.int .u8 (0), .int .u8 (0), .int .u8 (0), .int .u8 (x3)] 28) := by
  have i0 := ix0
  have i1 := ix1
  have i2 := ix2
  have i3 := ix3
  go_enter Try.func31, Try.ntmps31
  go_wp2
  go_rounds 5
  go_rounds 5
  go_ret
  exact ⟨ret_int (word_or 0 0 0 x3 zero_byte zero_byte zero_byte b3), rfl⟩
set_option maxHeartbeats 2000000 in
theorem word_E0 (a : Option Addr) (len cap : Nat) (p : Int) (w : World) (hl : len ≤ 140737488351232) (hlow : -9223372036854775808 ≤ p) (h0 : 0 ≤ p) (h1 : (len : Int) ≤ p) (h2 : p ≤ 9223372036854775804) :
    Calls Try.prog 31 #[.slice (a) len cap, .int .i64 p] w fun e w' => e = .returned (.int .u32 (word4 0 0 0 0)) ∧ w' = w.alloc (.cells #[.int .u8 (0), .int .u8 (0), .int .u8 (0), .int .u8 (0)] 28) := by
  have i0 := ix0
  have i1 := ix1
  have i2 := ix2
  have i3 := ix3
  go_enter Try.func31, Try.ntmps31
  go_wp2
  go_rounds 5
  go_rounds 5
  go_ret
  exact ⟨ret_int (word_or 0 0 0 0 zero_byte zero_byte zero_byte zero_byte), rfl⟩
set_option maxHeartbeats 2000000 in
theorem word_E1 (b off : Nat) (len cap : Nat) (p : Int) (w : World) (hl : len ≤ 140737488351232) (hlow : -9223372036854775808 ≤ p) (hb : b < w.heap.size) (h0 : 0 ≤ p) (h1 : p + 0 < len) (h2 : (len : Int) ≤ p + 1) (x0 : Int) (b0 : 0 ≤ x0 ∧ x0 ≤ 255) (c0 : w.cell? ⟨b, off + p.toNat, none⟩ = some (.int .u8 x0)) :
    Calls Try.prog 31 #[.slice (some ⟨b, off, none⟩) len cap, .int .i64 p] w fun e w' => e = .returned (.int .u32 (word4 x0 0 0 0)) ∧ w' = w.alloc (.cells #[.int .u8 (x0), .int .u8 (0), .int .u8 (0), .int .u8 (0)] 28) := by
  have i0 := ix0
  have i1 := ix1
  have i2 := ix2
  have i3 := ix3
  go_enter Try.func31, Try.ntmps31
  go_wp2
  go_rounds 5
  go_rounds 5
  go_ret
  exact ⟨ret_int (word_or x0 0 0 0 b0 zero_byte zero_byte zero_byte), rfl⟩
set_option maxHeartbeats 2000000 in
theorem word_E2 (b off : Nat) (len cap : Nat) (p : Int) (w : World) (hl : len ≤ 140737488351232) (hlow : -9223372036854775808 ≤ p) (hb : b < w.heap.size) (h0 : 0 ≤ p) (h1 : p + 1 < len) (h2 : (len : Int) ≤ p + 2) (x0 : Int) (b0 : 0 ≤ x0 ∧ x0 ≤ 255) (c0 : w.cell? ⟨b, off + p.toNat, none⟩ = some (.int .u8 x0)) (x1 : Int) (b1 : 0 ≤ x1 ∧ x1 ≤ 255) (c1 : w.cell? ⟨b, off + (p + 1).toNat, none⟩ = some (.int .u8 x1)) :
    Calls Try.prog 31 #[.slice (some ⟨b, off, none⟩) len cap, .int .i64 p] w fun e w' => e = .returned (.int .u32 (word4 x0 x1 0 0)) ∧ w' = w.alloc (.cells #[.int .u8 (x0), .int .u8 (x1), .int .u8 (0), .int .u8 (0)] 28) := by
  have i0 := ix0
  have i1 := ix1
  have i2 := ix2
  have i3 := ix3
  go_enter Try.func31, Try.ntmps31
  go_wp2
  go_rounds 5
  go_rounds 5
  go_ret
  exact ⟨ret_int (word_or x0 x1 0 0 b0 b1 zero_byte zero_byte), rfl⟩
set_option maxHeartbeats 2000000 in
theorem word_E3 (b off : Nat) (len cap : Nat) (p : Int) (w : World) (hl : len ≤ 140737488351232) (hlow : -9223372036854775808 ≤ p) (hb : b < w.heap.size) (h0 : 0 ≤ p) (h1 : p + 2 < len) (h2 : (len : Int) ≤ p + 3) (x0 : Int) (b0 : 0 ≤ x0 ∧ x0 ≤ 255) (c0 : w.cell? ⟨b, off + p.toNat, none⟩ = some (.int .u8 x0)) (x1 : Int) (b1 : 0 ≤ x1 ∧ x1 ≤ 255) (c1 : w.cell? ⟨b, off + (p + 1).toNat, none⟩ = some (.int .u8 x1)) (x2 : Int) (b2 : 0 ≤ x2 ∧ x2 ≤ 255) (c2 : w.cell? ⟨b, off + (p + 2).toNat, none⟩ = some (.int .u8 x2)) :
    Calls Try.prog 31 #[.slice (some ⟨b, off, none⟩) len cap, .int .i64 p] w fun e w' => e = .returned (.int .u32 (word4 x0 x1 x2 0)) ∧ w' = w.alloc (.cells #[.int .u8 (x0), .int .u8 (x1), .int .u8 (x2), .int .u8 (0)] 28) := by
  have i0 := ix0
  have i1 := ix1
  have i2 := ix2
  have i3 := ix3
  go_enter Try.func31, Try.ntmps31
  go_wp2
  go_rounds 5
  go_rounds 5
  go_ret
  exact ⟨ret_int (word_or x0 x1 x2 0 b0 b1 b2 zero_byte), rfl⟩
set_option maxHeartbeats 2000000 in
theorem word_E4 (b off : Nat) (len cap : Nat) (p : Int) (w : World) (hl : len ≤ 140737488351232) (hlow : -9223372036854775808 ≤ p) (hb : b < w.heap.size) (h0 : 0 ≤ p) (h1 : p + 3 < len) (x0 : Int) (b0 : 0 ≤ x0 ∧ x0 ≤ 255) (c0 : w.cell? ⟨b, off + p.toNat, none⟩ = some (.int .u8 x0)) (x1 : Int) (b1 : 0 ≤ x1 ∧ x1 ≤ 255) (c1 : w.cell? ⟨b, off + (p + 1).toNat, none⟩ = some (.int .u8 x1)) (x2 : Int) (b2 : 0 ≤ x2 ∧ x2 ≤ 255) (c2 : w.cell? ⟨b, off + (p + 2).toNat, none⟩ = some (.int .u8 x2)) (x3 : Int) (b3 : 0 ≤ x3 ∧ x3 ≤ 255) (c3 : w.cell? ⟨b, off + (p + 3).toNat, none⟩ = some (.int .u8 x3)) :
    Calls Try.prog 31 #[.slice (some ⟨b, off, none⟩) len cap, .int .i64 p] w fun e w' => e = .returned (.int .u32 (word4 x0 x1 x2 x3)) ∧ w' = w.alloc (.cells #[.int .u8 (x0), .int .u8 (x1), .int .u8 (x2), .int .u8 (x3)] 28) := by
  have i0 := ix0
  have i1 := ix1
  have i2 := ix2
  have i3 := ix3
  go_enter Try.func31, Try.ntmps31
  go_wp2
  go_rounds 5
  go_rounds 5
  go_ret
  exact ⟨ret_int (word_or x0 x1 x2 x3 b0 b1 b2 b3), rfl⟩
set_option maxHeartbeats 2000000 in
theorem word_F1 (a : Option Addr) (len cap : Nat) (p : Int) (w : World) (hl : len ≤ 140737488351232) (hlow : -9223372036854775808 ≤ p) (h0 : 9223372036854775805 ≤ p) (h1 : p ≤ 9223372036854775805) :
    Calls Try.prog 31 #[.slice (a) len cap, .int .i64 p] w fun e w' => e = .returned (.int .u32 (word4 0 0 0 0)) ∧ w' = w.alloc (.cells #[.int .u8 (0), .int .u8 (0), .int .u8 (0), .int .u8 (0)] 28) := by
  have i0 := ix0
  have i1 := ix1
  have i2 := ix2
  have i3 := ix3
  have hw3 : wrap64 (p + 3) < 0 := by unfold wrap64; omega
  go_enter Try.func31, Try.ntmps31
  go_wp2
  go_rounds 5
  go_rounds 5
  go_ret
  exact ⟨ret_int (word_or 0 0 0 0 zero_byte zero_byte zero_byte zero_byte), rfl⟩
set_option maxHeartbeats 2000000 in
theorem word_F2 (a : Option Addr) (len cap : Nat) (p : Int) (w : World) (hl : len ≤ 140737488351232) (hlow : -9223372036854775808 ≤ p) (h0 : 9223372036854775806 ≤ p) (h1 : p ≤ 9223372036854775806) :
    Calls Try.prog 31 #[.slice (a) len cap, .int .i64 p] w fun e w' => e = .returned (.int .u32 (word4 0 0 0 0)) ∧ w' = w.alloc (.cells #[.int .u8 (0), .int .u8 (0), .int .u8 (0), .int .u8 (0)] 28) := by
  have i0 := ix0
  have i1 := ix1
  have i2 := ix2
  have i3 := ix3
  have hw2 : wrap64 (p + 2) < 0 := by unfold wrap64; omega
  have hw3 : wrap64 (p + 3) < 0 := by unfold wrap64; omega
  go_enter Try.func31, Try.ntmps31
  go_wp2
  go_rounds 5
  go_rounds 5
  go_ret
  exact ⟨ret_int (word_or 0 0 0 0 zero_byte zero_byte zero_byte zero_byte), rfl⟩
set_option maxHeartbeats 2000000 in
theorem word_F3 (a : Option Addr) (len cap : Nat) (p : Int) (w : World) (hl : len ≤ 140737488351232) (hlow : -9223372036854775808 ≤ p) (h0 : 9223372036854775807 ≤ p) (h1 : p ≤ 9223372036854775807) :
    Calls Try.prog 31 #[.slice (a) len cap, .int .i64 p] w fun e w' => e = .returned (.int .u32 (word4 0 0 0 0)) ∧ w' = w.alloc (.cells #[.int .u8 (0), .int .u8 (0), .int .u8 (0), .int .u8 (0)] 28) := by
  have i0 := ix0
  have i1 := ix1
  have i2 := ix2
  have i3 := ix3
  have hw1 : wrap64 (p + 1) < 0 := by unfold wrap64; omega
  have hw2 : wrap64 (p + 2) < 0 := by unfold wrap64; omega
  have hw3 : wrap64 (p + 3) < 0 := by unfold wrap64; omega
  go_enter Try.func31, Try.ntmps31
  go_wp2
  go_rounds 5
  go_rounds 5
  go_ret
  exact ⟨ret_int (word_or 0 0 0 0 zero_byte zero_byte zero_byte zero_byte), rfl⟩
end Go.Proofs.Ytocajlafdmfamaa
