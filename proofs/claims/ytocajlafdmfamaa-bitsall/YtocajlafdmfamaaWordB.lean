/- What the own Word of chapter 1 answers, at any place of any bytes, case by case. -/
import Derived.Test.YtocajlafdmfamaaBits
import Derived.Test.YtocajlafdmfamaaWordLaws
import Derived.Handy
namespace Go.Proofs.Ytocajlafdmfamaa
open Go.ChangeShapes Go.WideShapes Go.ChangeAt Go.RowKit
set_option linter.unusedVariables false
set_option maxHeartbeats 2000000 in
theorem rword_A (a : Option Addr) (len cap : Nat) (p : Int) (w : World) (hl : len ≤ 140737488351232) (hlow : -9223372036854775808 ≤ p) (h0 : p ≤ -4) :
    Calls Try.prog 32 #[.slice (a) len cap, .int .i64 p] w fun e w' => e = .returned (.int .u32 (word4 0 0 0 0)) ∧ w' = w := by
  go_enter Try.func32, Try.ntmps32
  go_wp2
  go_rounds 5
  go_ret
  exact ⟨ret_int (by unfold word4; omega), rfl⟩
set_option maxHeartbeats 2000000 in
theorem rword_L10 (a : Option Addr) (len cap : Nat) (p : Int) (w : World) (hl : len ≤ 140737488351232) (hlow : -9223372036854775808 ≤ p) (h0 : -1 ≤ p) (h1 : p ≤ -1) (h2 : len ≤ 0) (h3 : 0 ≤ len) :
    Calls Try.prog 32 #[.slice (a) len cap, .int .i64 p] w fun e w' => e = .returned (.int .u32 (word4 0 0 0 0)) ∧ w' = w := by
  go_enter Try.func32, Try.ntmps32
  go_wp2
  go_rounds 5
  go_ret
  exact ⟨ret_int (by unfold word4; omega), rfl⟩
set_option maxHeartbeats 2000000 in
theorem rword_L11 (b off : Nat) (len cap : Nat) (p : Int) (w : World) (hl : len ≤ 140737488351232) (hlow : -9223372036854775808 ≤ p) (hb : b < w.heap.size) (h0 : -1 ≤ p) (h1 : p ≤ -1) (h2 : len ≤ 1) (h3 : 1 ≤ len) (x1 : Int) (b1 : 0 ≤ x1 ∧ x1 ≤ 255) (c1 : w.cell? ⟨b, off + (p + 1).toNat, none⟩ = some (.int .u8 x1)) :
    Calls Try.prog 32 #[.slice (some ⟨b, off, none⟩) len cap, .int .i64 p] w fun e w' => e = .returned (.int .u32 (word4 0 x1 0 0)) ∧ w' = w := by
  go_enter Try.func32, Try.ntmps32
  go_wp2
  go_rounds 5
  go_ret
  exact ⟨ret_int (by unfold word4; omega), rfl⟩
set_option maxHeartbeats 2000000 in
theorem rword_L12 (b off : Nat) (len cap : Nat) (p : Int) (w : World) (hl : len ≤ 140737488351232) (hlow : -9223372036854775808 ≤ p) (hb : b < w.heap.size) (h0 : -1 ≤ p) (h1 : p ≤ -1) (h2 : len ≤ 2) (h3 : 2 ≤ len) (x1 : Int) (b1 : 0 ≤ x1 ∧ x1 ≤ 255) (c1 : w.cell? ⟨b, off + (p + 1).toNat, none⟩ = some (.int .u8 x1)) (x2 : Int) (b2 : 0 ≤ x2 ∧ x2 ≤ 255) (c2 : w.cell? ⟨b, off + (p + 2).toNat, none⟩ = some (.int .u8 x2)) :
    Calls Try.prog 32 #[.slice (some ⟨b, off, none⟩) len cap, .int .i64 p] w fun e w' => e = .returned (.int .u32 (word4 0 x1 x2 0)) ∧ w' = w := by
  go_enter Try.func32, Try.ntmps32
  go_wp2
  go_rounds 5
  go_ret
  exact ⟨ret_int (by unfold word4; omega), rfl⟩
set_option maxHeartbeats 2000000 in
theorem rword_L13 (b off : Nat) (len cap : Nat) (p : Int) (w : World) (hl : len ≤ 140737488351232) (hlow : -9223372036854775808 ≤ p) (hb : b < w.heap.size) (h0 : -1 ≤ p) (h1 : p ≤ -1) (h2 : 3 ≤ len) (x1 : Int) (b1 : 0 ≤ x1 ∧ x1 ≤ 255) (c1 : w.cell? ⟨b, off + (p + 1).toNat, none⟩ = some (.int .u8 x1)) (x2 : Int) (b2 : 0 ≤ x2 ∧ x2 ≤ 255) (c2 : w.cell? ⟨b, off + (p + 2).toNat, none⟩ = some (.int .u8 x2)) (x3 : Int) (b3 : 0 ≤ x3 ∧ x3 ≤ 255) (c3 : w.cell? ⟨b, off + (p + 3).toNat, none⟩ = some (.int .u8 x3)) :
    Calls Try.prog 32 #[.slice (some ⟨b, off, none⟩) len cap, .int .i64 p] w fun e w' => e = .returned (.int .u32 (word4 0 x1 x2 x3)) ∧ w' = w := by
  go_enter Try.func32, Try.ntmps32
  go_wp2
  go_rounds 5
  go_ret
  exact ⟨ret_int (by unfold word4; omega), rfl⟩
set_option maxHeartbeats 2000000 in
theorem rword_L20 (a : Option Addr) (len cap : Nat) (p : Int) (w : World) (hl : len ≤ 140737488351232) (hlow : -9223372036854775808 ≤ p) (h0 : -2 ≤ p) (h1 : p ≤ -2) (h2 : len ≤ 0) (h3 : 0 ≤ len) :
    Calls Try.prog 32 #[.slice (a) len cap, .int .i64 p] w fun e w' => e = .returned (.int .u32 (word4 0 0 0 0)) ∧ w' = w := by
  go_enter Try.func32, Try.ntmps32
  go_wp2
  go_rounds 5
  go_ret
  exact ⟨ret_int (by unfold word4; omega), rfl⟩
set_option maxHeartbeats 2000000 in
theorem rword_L21 (b off : Nat) (len cap : Nat) (p : Int) (w : World) (hl : len ≤ 140737488351232) (hlow : -9223372036854775808 ≤ p) (hb : b < w.heap.size) (h0 : -2 ≤ p) (h1 : p ≤ -2) (h2 : len ≤ 1) (h3 : 1 ≤ len) (x2 : Int) (b2 : 0 ≤ x2 ∧ x2 ≤ 255) (c2 : w.cell? ⟨b, off + (p + 2).toNat, none⟩ = some (.int .u8 x2)) :
    Calls Try.prog 32 #[.slice (some ⟨b, off, none⟩) len cap, .int .i64 p] w fun e w' => e = .returned (.int .u32 (word4 0 0 x2 0)) ∧ w' = w := by
  go_enter Try.func32, Try.ntmps32
  go_wp2
  go_rounds 5
  go_ret
  exact ⟨ret_int (by unfold word4; omega), rfl⟩
set_option maxHeartbeats 2000000 in
theorem rword_L22 (b off : Nat) (len cap : Nat) (p : Int) (w : World) (hl : len ≤ 140737488351232) (hlow : -9223372036854775808 ≤ p) (hb : b < w.heap.size) (h0 : -2 ≤ p) (h1 : p ≤ -2) (h2 : 2 ≤ len) (x2 : Int) (b2 : 0 ≤ x2 ∧ x2 ≤ 255) (c2 : w.cell? ⟨b, off + (p + 2).toNat, none⟩ = some (.int .u8 x2)) (x3 : Int) (b3 : 0 ≤ x3 ∧ x3 ≤ 255) (c3 : w.cell? ⟨b, off + (p + 3).toNat, none⟩ = some (.int .u8 x3)) :
    Calls Try.prog 32 #[.slice (some ⟨b, off, none⟩) len cap, .int .i64 p] w fun e w' => e = .returned (.int .u32 (word4 0 0 x2 x3)) ∧ w' = w := by
  go_enter Try.func32, Try.ntmps32
  go_wp2
  go_rounds 5
  go_ret
  exact ⟨ret_int (by unfold word4; omega), rfl⟩
set_option maxHeartbeats 2000000 in
theorem rword_L30 (a : Option Addr) (len cap : Nat) (p : Int) (w : World) (hl : len ≤ 140737488351232) (hlow : -9223372036854775808 ≤ p) (h0 : -3 ≤ p) (h1 : p ≤ -3) (h2 : len ≤ 0) (h3 : 0 ≤ len) :
    Calls Try.prog 32 #[.slice (a) len cap, .int .i64 p] w fun e w' => e = .returned (.int .u32 (word4 0 0 0 0)) ∧ w' = w := by
  go_enter Try.func32, Try.ntmps32
  go_wp2
  go_rounds 5
  go_ret
  exact ⟨ret_int (by unfold word4; omega), rfl⟩
set_option maxHeartbeats 2000000 in
theorem rword_L31 (b off : Nat) (len cap : Nat) (p : Int) (w : World) (hl : len ≤ 140737488351232) (hlow : -9223372036854775808 ≤ p) (hb : b < w.heap.size) (h0 : -3 ≤ p) (h1 : p ≤ -3) (h2 : 1 ≤ len) (x3 : Int) (b3 : 0 ≤ x3 ∧ x3 ≤ 255) (c3 : w.cell? ⟨b, off + (p + 3).toNat, none⟩ = some (.int .u8 x3)) :
    Calls Try.prog 32 #[.slice (some ⟨b, off, none⟩) len cap, .int .i64 p] w fun e w' => e = .returned (.int .u32 (word4 0 0 0 x3)) ∧ w' = w := by
  go_enter Try.func32, Try.ntmps32
  go_wp2
  go_rounds 5
  go_ret
  exact ⟨ret_int (by unfold word4; omega), rfl⟩
set_option maxHeartbeats 2000000 in
theorem rword_E0 (a : Option Addr) (len cap : Nat) (p : Int) (w : World) (hl : len ≤ 140737488351232) (hlow : -9223372036854775808 ≤ p) (h0 : 0 ≤ p) (h1 : (len : Int) ≤ p) :
    Calls Try.prog 32 #[.slice (a) len cap, .int .i64 p] w fun e w' => e = .returned (.int .u32 (word4 0 0 0 0)) ∧ w' = w := by
  go_enter Try.func32, Try.ntmps32
  go_wp2
  go_rounds 5
  go_ret
  exact ⟨ret_int (by unfold word4; omega), rfl⟩
set_option maxHeartbeats 2000000 in
theorem rword_E1 (b off : Nat) (len cap : Nat) (p : Int) (w : World) (hl : len ≤ 140737488351232) (hlow : -9223372036854775808 ≤ p) (hb : b < w.heap.size) (h0 : 0 ≤ p) (h1 : p + 0 < len) (h2 : (len : Int) ≤ p + 1) (x0 : Int) (b0 : 0 ≤ x0 ∧ x0 ≤ 255) (c0 : w.cell? ⟨b, off + p.toNat, none⟩ = some (.int .u8 x0)) :
    Calls Try.prog 32 #[.slice (some ⟨b, off, none⟩) len cap, .int .i64 p] w fun e w' => e = .returned (.int .u32 (word4 x0 0 0 0)) ∧ w' = w := by
  go_enter Try.func32, Try.ntmps32
  go_wp2
  go_rounds 5
  go_ret
  exact ⟨ret_int (by unfold word4; omega), rfl⟩
set_option maxHeartbeats 2000000 in
theorem rword_E2 (b off : Nat) (len cap : Nat) (p : Int) (w : World) (hl : len ≤ 140737488351232) (hlow : -9223372036854775808 ≤ p) (hb : b < w.heap.size) (h0 : 0 ≤ p) (h1 : p + 1 < len) (h2 : (len : Int) ≤ p + 2) (x0 : Int) (b0 : 0 ≤ x0 ∧ x0 ≤ 255) (c0 : w.cell? ⟨b, off + p.toNat, none⟩ = some (.int .u8 x0)) (x1 : Int) (b1 : 0 ≤ x1 ∧ x1 ≤ 255) (c1 : w.cell? ⟨b, off + (p + 1).toNat, none⟩ = some (.int .u8 x1)) :
    Calls Try.prog 32 #[.slice (some ⟨b, off, none⟩) len cap, .int .i64 p] w fun e w' => e = .returned (.int .u32 (word4 x0 x1 0 0)) ∧ w' = w := by
  go_enter Try.func32, Try.ntmps32
  go_wp2
  go_rounds 5
  go_ret
  exact ⟨ret_int (by unfold word4; omega), rfl⟩
set_option maxHeartbeats 2000000 in
theorem rword_E3 (b off : Nat) (len cap : Nat) (p : Int) (w : World) (hl : len ≤ 140737488351232) (hlow : -9223372036854775808 ≤ p) (hb : b < w.heap.size) (h0 : 0 ≤ p) (h1 : p + 2 < len) (h2 : (len : Int) ≤ p + 3) (x0 : Int) (b0 : 0 ≤ x0 ∧ x0 ≤ 255) (c0 : w.cell? ⟨b, off + p.toNat, none⟩ = some (.int .u8 x0)) (x1 : Int) (b1 : 0 ≤ x1 ∧ x1 ≤ 255) (c1 : w.cell? ⟨b, off + (p + 1).toNat, none⟩ = some (.int .u8 x1)) (x2 : Int) (b2 : 0 ≤ x2 ∧ x2 ≤ 255) (c2 : w.cell? ⟨b, off + (p + 2).toNat, none⟩ = some (.int .u8 x2)) :
    Calls Try.prog 32 #[.slice (some ⟨b, off, none⟩) len cap, .int .i64 p] w fun e w' => e = .returned (.int .u32 (word4 x0 x1 x2 0)) ∧ w' = w := by
  go_enter Try.func32, Try.ntmps32
  go_wp2
  go_rounds 5
  go_ret
  exact ⟨ret_int (by unfold word4; omega), rfl⟩
set_option maxHeartbeats 2000000 in
theorem rword_E4 (b off : Nat) (len cap : Nat) (p : Int) (w : World) (hl : len ≤ 140737488351232) (hlow : -9223372036854775808 ≤ p) (hb : b < w.heap.size) (h0 : 0 ≤ p) (h1 : p + 3 < len) (x0 : Int) (b0 : 0 ≤ x0 ∧ x0 ≤ 255) (c0 : w.cell? ⟨b, off + p.toNat, none⟩ = some (.int .u8 x0)) (x1 : Int) (b1 : 0 ≤ x1 ∧ x1 ≤ 255) (c1 : w.cell? ⟨b, off + (p + 1).toNat, none⟩ = some (.int .u8 x1)) (x2 : Int) (b2 : 0 ≤ x2 ∧ x2 ≤ 255) (c2 : w.cell? ⟨b, off + (p + 2).toNat, none⟩ = some (.int .u8 x2)) (x3 : Int) (b3 : 0 ≤ x3 ∧ x3 ≤ 255) (c3 : w.cell? ⟨b, off + (p + 3).toNat, none⟩ = some (.int .u8 x3)) :
    Calls Try.prog 32 #[.slice (some ⟨b, off, none⟩) len cap, .int .i64 p] w fun e w' => e = .returned (.int .u32 (word4 x0 x1 x2 x3)) ∧ w' = w := by
  go_enter Try.func32, Try.ntmps32
  go_wp2
  go_rounds 5
  go_ret
  exact ⟨ret_int (by unfold word4; omega), rfl⟩
end Go.Proofs.Ytocajlafdmfamaa
