/- The own word of a row, walked. -/
import Derived.Test.YtobnocioefchlaaPMAV
import Derived.Test.YtobnocioefchlaaPAluPlain
import Derived.BigQuiet
namespace Go.Proofs.Ytobnocioefchlaa
open Go.ChangeShapes Go.WideShapes Go.ChangeAt Go.RowKit
set_option linter.unusedVariables false
/-- A word out of a row's numbers and an instruction's fields. -/
def wordN (c o f s t d a m : Nat) : Nat :=
  if c = 84 then o * 67108864 + s * 2097152 + t * 65536 + m % 1024 * 64 + f else
  if c = 67 then o * 67108864 + m % 1048576 * 64 + f else
  if c = 73 then o * 67108864 + s * 2097152 + t * 65536 + m % 65536 else
  if c = 85 then o * 67108864 + s * 2097152 + t * 65536 + m % 65536 else
  if c = 86 then o * 67108864 + s * 2097152 + t * 65536 + m % 65536 else
  if c = 80 then o * 67108864 + s * 2097152 + t * 65536 + m % 65536 else
  if c = 66 then o * 67108864 + s * 2097152 + t * 65536 + m / 4 % 65536 else
  if c = 90 then o * 67108864 + s * 2097152 + t * 65536 + m / 4 % 65536 else
  if c = 82 then o * 67108864 + s * 2097152 + f * 65536 + m / 4 % 65536 else
  if c = 74 then o * 67108864 + m / 4 % 67108864 else
  o * 67108864 + s * 2097152 + t * 65536 + d * 2048 + a * 64 + f
theorem and_mod (m k : Nat) (hm : m < 4294967296) (hk : k ≤ 32) : bits .and .u32 (m : Int) ((2 ^ k - 1 : Nat) : Int) = ((m % 2 ^ k : Nat) : Int) := by
  have hp : 2 ^ k ≤ 2 ^ 32 := Nat.pow_le_pow_right (by omega) hk
  have h := u32_and_nat m (2 ^ k - 1) hm (by have : 0 < 2 ^ k := Nat.two_pow_pos k; omega)
  rw [Nat.and_two_pow_sub_one_eq_mod] at h
  exact h
theorem and_1023 (m : Nat) (hm : m < 4294967296) : bits .and .u32 (m : Int) 1023 = ((m % 1024 : Nat) : Int) := and_mod m 10 hm (by omega)
theorem and_20 (m : Nat) (hm : m < 4294967296) : bits .and .u32 (m : Int) 1048575 = ((m % 1048576 : Nat) : Int) := and_mod m 20 hm (by omega)
theorem and_26 (m : Nat) (hm : m < 4294967296) : bits .and .u32 (m : Int) 67108863 = ((m % 67108864 : Nat) : Int) := and_mod m 26 hm (by omega)
theorem and31n2 (n : Nat) (h : n < 32) : bits .and .i64 (n : Int) 31 = (n : Int) := by rw [and31i]; omega
set_option maxRecDepth 20000 in
set_option maxHeartbeats 1000000 in
theorem word_68 (p op : Int) (o f s t d a m : Nat) (nm : ByteArray) (ho : o < 64) (hf : f < 64) (hs : s < 32) (ht : t < 32) (hd : d < 32) (ha : a < 32) (hm : m < 4294967296) (w : World) : Calls Try.prog 60 #[.agg (rwC p 68 (o : Int) (f : Int) nm), .agg (insC op (s : Int) (t : Int) (d : Int) (a : Int) (m : Int))] w fun e w' => e = .returned (.int .u32 ((wordN 68 o f s t d a m : Nat) : Int)) ∧ Below w.heap.size w w' := by
  show Calls _ _ _ _ fun e w' => e = .returned (.int .u32 ((o * 67108864 + s * 2097152 + t * 65536 + d * 2048 + a * 64 + f : Nat) : Int)) ∧ Below w.heap.size w w'
  have hB := hidden (((Below.refl w.heap.size w).alloc (Nat.le_refl _) (.cells (rwC p 68 (o : Int) (f : Int) nm) 119)).alloc (by simp) (.cells (insC op (s : Int) (t : Int) (d : Int) (a : Int) (m : Int)) 62))
  have a1 := and31n2 s hs
  have a2 := and31n2 t ht
  have a3 := and31n2 d hd
  have a4 := and31n2 a ha
  have r1 : (s : Int) % 4294967296 = (s : Int) := by omega
  have r2 : (t : Int) % 4294967296 = (t : Int) := by omega
  have r3 : (d : Int) % 4294967296 = (d : Int) := by omega
  have r4 : (a : Int) % 4294967296 = (a : Int) := by omega
  have r5 : (o : Int) % 4294967296 = (o : Int) := by omega
  have r6 : (f : Int) % 4294967296 = (f : Int) := by omega
  go_enter Try.func60, Try.ntmps60
  go_wp2
  go_quiet (fail)
  go_wp2
  go_ret
  exact ⟨ret_int (by omega), below_drewN hB.out _⟩
set_option maxRecDepth 20000 in
set_option maxHeartbeats 1000000 in
theorem word_72 (p op : Int) (o f s t d a m : Nat) (nm : ByteArray) (ho : o < 64) (hf : f < 64) (hs : s < 32) (ht : t < 32) (hd : d < 32) (ha : a < 32) (hm : m < 4294967296) (w : World) : Calls Try.prog 60 #[.agg (rwC p 72 (o : Int) (f : Int) nm), .agg (insC op (s : Int) (t : Int) (d : Int) (a : Int) (m : Int))] w fun e w' => e = .returned (.int .u32 ((wordN 72 o f s t d a m : Nat) : Int)) ∧ Below w.heap.size w w' := by
  show Calls _ _ _ _ fun e w' => e = .returned (.int .u32 ((o * 67108864 + s * 2097152 + t * 65536 + d * 2048 + a * 64 + f : Nat) : Int)) ∧ Below w.heap.size w w'
  have hB := hidden (((Below.refl w.heap.size w).alloc (Nat.le_refl _) (.cells (rwC p 72 (o : Int) (f : Int) nm) 119)).alloc (by simp) (.cells (insC op (s : Int) (t : Int) (d : Int) (a : Int) (m : Int)) 62))
  have a1 := and31n2 s hs
  have a2 := and31n2 t ht
  have a3 := and31n2 d hd
  have a4 := and31n2 a ha
  have r1 : (s : Int) % 4294967296 = (s : Int) := by omega
  have r2 : (t : Int) % 4294967296 = (t : Int) := by omega
  have r3 : (d : Int) % 4294967296 = (d : Int) := by omega
  have r4 : (a : Int) % 4294967296 = (a : Int) := by omega
  have r5 : (o : Int) % 4294967296 = (o : Int) := by omega
  have r6 : (f : Int) % 4294967296 = (f : Int) := by omega
  go_enter Try.func60, Try.ntmps60
  go_wp2
  go_quiet (fail)
  go_wp2
  go_ret
  exact ⟨ret_int (by omega), below_drewN hB.out _⟩
set_option maxRecDepth 20000 in
set_option maxHeartbeats 1000000 in
theorem word_77 (p op : Int) (o f s t d a m : Nat) (nm : ByteArray) (ho : o < 64) (hf : f < 64) (hs : s < 32) (ht : t < 32) (hd : d < 32) (ha : a < 32) (hm : m < 4294967296) (w : World) : Calls Try.prog 60 #[.agg (rwC p 77 (o : Int) (f : Int) nm), .agg (insC op (s : Int) (t : Int) (d : Int) (a : Int) (m : Int))] w fun e w' => e = .returned (.int .u32 ((wordN 77 o f s t d a m : Nat) : Int)) ∧ Below w.heap.size w w' := by
  show Calls _ _ _ _ fun e w' => e = .returned (.int .u32 ((o * 67108864 + s * 2097152 + t * 65536 + d * 2048 + a * 64 + f : Nat) : Int)) ∧ Below w.heap.size w w'
  have hB := hidden (((Below.refl w.heap.size w).alloc (Nat.le_refl _) (.cells (rwC p 77 (o : Int) (f : Int) nm) 119)).alloc (by simp) (.cells (insC op (s : Int) (t : Int) (d : Int) (a : Int) (m : Int)) 62))
  have a1 := and31n2 s hs
  have a2 := and31n2 t ht
  have a3 := and31n2 d hd
  have a4 := and31n2 a ha
  have r1 : (s : Int) % 4294967296 = (s : Int) := by omega
  have r2 : (t : Int) % 4294967296 = (t : Int) := by omega
  have r3 : (d : Int) % 4294967296 = (d : Int) := by omega
  have r4 : (a : Int) % 4294967296 = (a : Int) := by omega
  have r5 : (o : Int) % 4294967296 = (o : Int) := by omega
  have r6 : (f : Int) % 4294967296 = (f : Int) := by omega
  go_enter Try.func60, Try.ntmps60
  go_wp2
  go_quiet (fail)
  go_wp2
  go_ret
  exact ⟨ret_int (by omega), below_drewN hB.out _⟩
set_option maxRecDepth 20000 in
set_option maxHeartbeats 1000000 in
theorem word_70 (p op : Int) (o f s t d a m : Nat) (nm : ByteArray) (ho : o < 64) (hf : f < 64) (hs : s < 32) (ht : t < 32) (hd : d < 32) (ha : a < 32) (hm : m < 4294967296) (w : World) : Calls Try.prog 60 #[.agg (rwC p 70 (o : Int) (f : Int) nm), .agg (insC op (s : Int) (t : Int) (d : Int) (a : Int) (m : Int))] w fun e w' => e = .returned (.int .u32 ((wordN 70 o f s t d a m : Nat) : Int)) ∧ Below w.heap.size w w' := by
  show Calls _ _ _ _ fun e w' => e = .returned (.int .u32 ((o * 67108864 + s * 2097152 + t * 65536 + d * 2048 + a * 64 + f : Nat) : Int)) ∧ Below w.heap.size w w'
  have hB := hidden (((Below.refl w.heap.size w).alloc (Nat.le_refl _) (.cells (rwC p 70 (o : Int) (f : Int) nm) 119)).alloc (by simp) (.cells (insC op (s : Int) (t : Int) (d : Int) (a : Int) (m : Int)) 62))
  have a1 := and31n2 s hs
  have a2 := and31n2 t ht
  have a3 := and31n2 d hd
  have a4 := and31n2 a ha
  have r1 : (s : Int) % 4294967296 = (s : Int) := by omega
  have r2 : (t : Int) % 4294967296 = (t : Int) := by omega
  have r3 : (d : Int) % 4294967296 = (d : Int) := by omega
  have r4 : (a : Int) % 4294967296 = (a : Int) := by omega
  have r5 : (o : Int) % 4294967296 = (o : Int) := by omega
  have r6 : (f : Int) % 4294967296 = (f : Int) := by omega
  go_enter Try.func60, Try.ntmps60
  go_wp2
  go_quiet (fail)
  go_wp2
  go_ret
  exact ⟨ret_int (by omega), below_drewN hB.out _⟩
set_option maxRecDepth 20000 in
set_option maxHeartbeats 1000000 in
theorem word_76 (p op : Int) (o f s t d a m : Nat) (nm : ByteArray) (ho : o < 64) (hf : f < 64) (hs : s < 32) (ht : t < 32) (hd : d < 32) (ha : a < 32) (hm : m < 4294967296) (w : World) : Calls Try.prog 60 #[.agg (rwC p 76 (o : Int) (f : Int) nm), .agg (insC op (s : Int) (t : Int) (d : Int) (a : Int) (m : Int))] w fun e w' => e = .returned (.int .u32 ((wordN 76 o f s t d a m : Nat) : Int)) ∧ Below w.heap.size w w' := by
  show Calls _ _ _ _ fun e w' => e = .returned (.int .u32 ((o * 67108864 + s * 2097152 + t * 65536 + d * 2048 + a * 64 + f : Nat) : Int)) ∧ Below w.heap.size w w'
  have hB := hidden (((Below.refl w.heap.size w).alloc (Nat.le_refl _) (.cells (rwC p 76 (o : Int) (f : Int) nm) 119)).alloc (by simp) (.cells (insC op (s : Int) (t : Int) (d : Int) (a : Int) (m : Int)) 62))
  have a1 := and31n2 s hs
  have a2 := and31n2 t ht
  have a3 := and31n2 d hd
  have a4 := and31n2 a ha
  have r1 : (s : Int) % 4294967296 = (s : Int) := by omega
  have r2 : (t : Int) % 4294967296 = (t : Int) := by omega
  have r3 : (d : Int) % 4294967296 = (d : Int) := by omega
  have r4 : (a : Int) % 4294967296 = (a : Int) := by omega
  have r5 : (o : Int) % 4294967296 = (o : Int) := by omega
  have r6 : (f : Int) % 4294967296 = (f : Int) := by omega
  go_enter Try.func60, Try.ntmps60
  go_wp2
  go_quiet (fail)
  go_wp2
  go_ret
  exact ⟨ret_int (by omega), below_drewN hB.out _⟩
set_option maxRecDepth 20000 in
set_option maxHeartbeats 1000000 in
theorem word_71 (p op : Int) (o f s t d a m : Nat) (nm : ByteArray) (ho : o < 64) (hf : f < 64) (hs : s < 32) (ht : t < 32) (hd : d < 32) (ha : a < 32) (hm : m < 4294967296) (w : World) : Calls Try.prog 60 #[.agg (rwC p 71 (o : Int) (f : Int) nm), .agg (insC op (s : Int) (t : Int) (d : Int) (a : Int) (m : Int))] w fun e w' => e = .returned (.int .u32 ((wordN 71 o f s t d a m : Nat) : Int)) ∧ Below w.heap.size w w' := by
  show Calls _ _ _ _ fun e w' => e = .returned (.int .u32 ((o * 67108864 + s * 2097152 + t * 65536 + d * 2048 + a * 64 + f : Nat) : Int)) ∧ Below w.heap.size w w'
  have hB := hidden (((Below.refl w.heap.size w).alloc (Nat.le_refl _) (.cells (rwC p 71 (o : Int) (f : Int) nm) 119)).alloc (by simp) (.cells (insC op (s : Int) (t : Int) (d : Int) (a : Int) (m : Int)) 62))
  have a1 := and31n2 s hs
  have a2 := and31n2 t ht
  have a3 := and31n2 d hd
  have a4 := and31n2 a ha
  have r1 : (s : Int) % 4294967296 = (s : Int) := by omega
  have r2 : (t : Int) % 4294967296 = (t : Int) := by omega
  have r3 : (d : Int) % 4294967296 = (d : Int) := by omega
  have r4 : (a : Int) % 4294967296 = (a : Int) := by omega
  have r5 : (o : Int) % 4294967296 = (o : Int) := by omega
  have r6 : (f : Int) % 4294967296 = (f : Int) := by omega
  go_enter Try.func60, Try.ntmps60
  go_wp2
  go_quiet (fail)
  go_wp2
  go_ret
  exact ⟨ret_int (by omega), below_drewN hB.out _⟩
set_option maxRecDepth 20000 in
set_option maxHeartbeats 1000000 in
theorem word_84 (p op : Int) (o f s t d a m : Nat) (nm : ByteArray) (ho : o < 64) (hf : f < 64) (hs : s < 32) (ht : t < 32) (hd : d < 32) (ha : a < 32) (hm : m < 4294967296) (w : World) : Calls Try.prog 60 #[.agg (rwC p 84 (o : Int) (f : Int) nm), .agg (insC op (s : Int) (t : Int) (d : Int) (a : Int) (m : Int))] w fun e w' => e = .returned (.int .u32 ((wordN 84 o f s t d a m : Nat) : Int)) ∧ Below w.heap.size w w' := by
  show Calls _ _ _ _ fun e w' => e = .returned (.int .u32 ((o * 67108864 + s * 2097152 + t * 65536 + m % 1024 * 64 + f : Nat) : Int)) ∧ Below w.heap.size w w'
  have hB := hidden (((Below.refl w.heap.size w).alloc (Nat.le_refl _) (.cells (rwC p 84 (o : Int) (f : Int) nm) 119)).alloc (by simp) (.cells (insC op (s : Int) (t : Int) (d : Int) (a : Int) (m : Int)) 62))
  have a1 := and31n2 s hs
  have a2 := and31n2 t ht
  have a3 := and31n2 d hd
  have a4 := and31n2 a ha
  have hq := and_1023 m hm
  obtain ⟨q, hqq⟩ : ∃ q : Nat, m % 1024 = q := ⟨_, rfl⟩
  rw [hqq] at hq ⊢
  have hql : q < 1024 := by omega
  clear hqq
  have r1 : (s : Int) % 4294967296 = (s : Int) := by omega
  have r2 : (t : Int) % 4294967296 = (t : Int) := by omega
  have r3 : (d : Int) % 4294967296 = (d : Int) := by omega
  have r4 : (a : Int) % 4294967296 = (a : Int) := by omega
  have r5 : (o : Int) % 4294967296 = (o : Int) := by omega
  have r6 : (f : Int) % 4294967296 = (f : Int) := by omega
  go_enter Try.func60, Try.ntmps60
  go_wp2
  go_quiet (fail)
  go_wp2
  go_ret
  exact ⟨ret_int (by omega), below_drewN hB.out _⟩
set_option maxRecDepth 20000 in
set_option maxHeartbeats 1000000 in
theorem word_67 (p op : Int) (o f s t d a m : Nat) (nm : ByteArray) (ho : o < 64) (hf : f < 64) (hs : s < 32) (ht : t < 32) (hd : d < 32) (ha : a < 32) (hm : m < 4294967296) (w : World) : Calls Try.prog 60 #[.agg (rwC p 67 (o : Int) (f : Int) nm), .agg (insC op (s : Int) (t : Int) (d : Int) (a : Int) (m : Int))] w fun e w' => e = .returned (.int .u32 ((wordN 67 o f s t d a m : Nat) : Int)) ∧ Below w.heap.size w w' := by
  show Calls _ _ _ _ fun e w' => e = .returned (.int .u32 ((o * 67108864 + m % 1048576 * 64 + f : Nat) : Int)) ∧ Below w.heap.size w w'
  have hB := hidden (((Below.refl w.heap.size w).alloc (Nat.le_refl _) (.cells (rwC p 67 (o : Int) (f : Int) nm) 119)).alloc (by simp) (.cells (insC op (s : Int) (t : Int) (d : Int) (a : Int) (m : Int)) 62))
  have a1 := and31n2 s hs
  have a2 := and31n2 t ht
  have a3 := and31n2 d hd
  have a4 := and31n2 a ha
  have hq := and_20 m hm
  obtain ⟨q, hqq⟩ : ∃ q : Nat, m % 1048576 = q := ⟨_, rfl⟩
  rw [hqq] at hq ⊢
  have hql : q < 1048576 := by omega
  clear hqq
  have r1 : (s : Int) % 4294967296 = (s : Int) := by omega
  have r2 : (t : Int) % 4294967296 = (t : Int) := by omega
  have r3 : (d : Int) % 4294967296 = (d : Int) := by omega
  have r4 : (a : Int) % 4294967296 = (a : Int) := by omega
  have r5 : (o : Int) % 4294967296 = (o : Int) := by omega
  have r6 : (f : Int) % 4294967296 = (f : Int) := by omega
  go_enter Try.func60, Try.ntmps60
  go_wp2
  go_quiet (fail)
  go_wp2
  go_ret
  exact ⟨ret_int (by omega), below_drewN hB.out _⟩
set_option maxRecDepth 20000 in
set_option maxHeartbeats 1000000 in
theorem word_88 (p op : Int) (o f s t d a m : Nat) (nm : ByteArray) (ho : o < 64) (hf : f < 64) (hs : s < 32) (ht : t < 32) (hd : d < 32) (ha : a < 32) (hm : m < 4294967296) (w : World) : Calls Try.prog 60 #[.agg (rwC p 88 (o : Int) (f : Int) nm), .agg (insC op (s : Int) (t : Int) (d : Int) (a : Int) (m : Int))] w fun e w' => e = .returned (.int .u32 ((wordN 88 o f s t d a m : Nat) : Int)) ∧ Below w.heap.size w w' := by
  show Calls _ _ _ _ fun e w' => e = .returned (.int .u32 ((o * 67108864 + s * 2097152 + t * 65536 + d * 2048 + a * 64 + f : Nat) : Int)) ∧ Below w.heap.size w w'
  have hB := hidden (((Below.refl w.heap.size w).alloc (Nat.le_refl _) (.cells (rwC p 88 (o : Int) (f : Int) nm) 119)).alloc (by simp) (.cells (insC op (s : Int) (t : Int) (d : Int) (a : Int) (m : Int)) 62))
  have a1 := and31n2 s hs
  have a2 := and31n2 t ht
  have a3 := and31n2 d hd
  have a4 := and31n2 a ha
  have r1 : (s : Int) % 4294967296 = (s : Int) := by omega
  have r2 : (t : Int) % 4294967296 = (t : Int) := by omega
  have r3 : (d : Int) % 4294967296 = (d : Int) := by omega
  have r4 : (a : Int) % 4294967296 = (a : Int) := by omega
  have r5 : (o : Int) % 4294967296 = (o : Int) := by omega
  have r6 : (f : Int) % 4294967296 = (f : Int) := by omega
  go_enter Try.func60, Try.ntmps60
  go_wp2
  go_quiet (fail)
  go_wp2
  go_ret
  exact ⟨ret_int (by omega), below_drewN hB.out _⟩
set_option maxRecDepth 20000 in
set_option maxHeartbeats 1000000 in
theorem word_89 (p op : Int) (o f s t d a m : Nat) (nm : ByteArray) (ho : o < 64) (hf : f < 64) (hs : s < 32) (ht : t < 32) (hd : d < 32) (ha : a < 32) (hm : m < 4294967296) (w : World) : Calls Try.prog 60 #[.agg (rwC p 89 (o : Int) (f : Int) nm), .agg (insC op (s : Int) (t : Int) (d : Int) (a : Int) (m : Int))] w fun e w' => e = .returned (.int .u32 ((wordN 89 o f s t d a m : Nat) : Int)) ∧ Below w.heap.size w w' := by
  show Calls _ _ _ _ fun e w' => e = .returned (.int .u32 ((o * 67108864 + s * 2097152 + t * 65536 + d * 2048 + a * 64 + f : Nat) : Int)) ∧ Below w.heap.size w w'
  have hB := hidden (((Below.refl w.heap.size w).alloc (Nat.le_refl _) (.cells (rwC p 89 (o : Int) (f : Int) nm) 119)).alloc (by simp) (.cells (insC op (s : Int) (t : Int) (d : Int) (a : Int) (m : Int)) 62))
  have a1 := and31n2 s hs
  have a2 := and31n2 t ht
  have a3 := and31n2 d hd
  have a4 := and31n2 a ha
  have r1 : (s : Int) % 4294967296 = (s : Int) := by omega
  have r2 : (t : Int) % 4294967296 = (t : Int) := by omega
  have r3 : (d : Int) % 4294967296 = (d : Int) := by omega
  have r4 : (a : Int) % 4294967296 = (a : Int) := by omega
  have r5 : (o : Int) % 4294967296 = (o : Int) := by omega
  have r6 : (f : Int) % 4294967296 = (f : Int) := by omega
  go_enter Try.func60, Try.ntmps60
  go_wp2
  go_quiet (fail)
  go_wp2
  go_ret
  exact ⟨ret_int (by omega), below_drewN hB.out _⟩
set_option maxRecDepth 20000 in
set_option maxHeartbeats 1000000 in
theorem word_73 (p op : Int) (o f s t d a m : Nat) (nm : ByteArray) (ho : o < 64) (hf : f < 64) (hs : s < 32) (ht : t < 32) (hd : d < 32) (ha : a < 32) (hm : m < 4294967296) (w : World) : Calls Try.prog 60 #[.agg (rwC p 73 (o : Int) (f : Int) nm), .agg (insC op (s : Int) (t : Int) (d : Int) (a : Int) (m : Int))] w fun e w' => e = .returned (.int .u32 ((wordN 73 o f s t d a m : Nat) : Int)) ∧ Below w.heap.size w w' := by
  show Calls _ _ _ _ fun e w' => e = .returned (.int .u32 ((o * 67108864 + s * 2097152 + t * 65536 + m % 65536 : Nat) : Int)) ∧ Below w.heap.size w w'
  have hB := hidden (((Below.refl w.heap.size w).alloc (Nat.le_refl _) (.cells (rwC p 73 (o : Int) (f : Int) nm) 119)).alloc (by simp) (.cells (insC op (s : Int) (t : Int) (d : Int) (a : Int) (m : Int)) 62))
  have a1 := and31n2 s hs
  have a2 := and31n2 t ht
  have a3 := and31n2 d hd
  have a4 := and31n2 a ha
  have hq := and_half m hm
  obtain ⟨q, hqq⟩ : ∃ q : Nat, m % 65536 = q := ⟨_, rfl⟩
  rw [hqq] at hq ⊢
  have hql : q < 65536 := by omega
  clear hqq
  have r1 : (s : Int) % 4294967296 = (s : Int) := by omega
  have r2 : (t : Int) % 4294967296 = (t : Int) := by omega
  have r3 : (d : Int) % 4294967296 = (d : Int) := by omega
  have r4 : (a : Int) % 4294967296 = (a : Int) := by omega
  have r5 : (o : Int) % 4294967296 = (o : Int) := by omega
  have r6 : (f : Int) % 4294967296 = (f : Int) := by omega
  go_enter Try.func60, Try.ntmps60
  go_wp2
  go_quiet (fail)
  go_wp2
  go_ret
  exact ⟨ret_int (by omega), below_drewN hB.out _⟩
set_option maxRecDepth 20000 in
set_option maxHeartbeats 1000000 in
theorem word_85 (p op : Int) (o f s t d a m : Nat) (nm : ByteArray) (ho : o < 64) (hf : f < 64) (hs : s < 32) (ht : t < 32) (hd : d < 32) (ha : a < 32) (hm : m < 4294967296) (w : World) : Calls Try.prog 60 #[.agg (rwC p 85 (o : Int) (f : Int) nm), .agg (insC op (s : Int) (t : Int) (d : Int) (a : Int) (m : Int))] w fun e w' => e = .returned (.int .u32 ((wordN 85 o f s t d a m : Nat) : Int)) ∧ Below w.heap.size w w' := by
  show Calls _ _ _ _ fun e w' => e = .returned (.int .u32 ((o * 67108864 + s * 2097152 + t * 65536 + m % 65536 : Nat) : Int)) ∧ Below w.heap.size w w'
  have hB := hidden (((Below.refl w.heap.size w).alloc (Nat.le_refl _) (.cells (rwC p 85 (o : Int) (f : Int) nm) 119)).alloc (by simp) (.cells (insC op (s : Int) (t : Int) (d : Int) (a : Int) (m : Int)) 62))
  have a1 := and31n2 s hs
  have a2 := and31n2 t ht
  have a3 := and31n2 d hd
  have a4 := and31n2 a ha
  have hq := and_half m hm
  obtain ⟨q, hqq⟩ : ∃ q : Nat, m % 65536 = q := ⟨_, rfl⟩
  rw [hqq] at hq ⊢
  have hql : q < 65536 := by omega
  clear hqq
  have r1 : (s : Int) % 4294967296 = (s : Int) := by omega
  have r2 : (t : Int) % 4294967296 = (t : Int) := by omega
  have r3 : (d : Int) % 4294967296 = (d : Int) := by omega
  have r4 : (a : Int) % 4294967296 = (a : Int) := by omega
  have r5 : (o : Int) % 4294967296 = (o : Int) := by omega
  have r6 : (f : Int) % 4294967296 = (f : Int) := by omega
  go_enter Try.func60, Try.ntmps60
  go_wp2
  go_quiet (fail)
  go_wp2
  go_ret
  exact ⟨ret_int (by omega), below_drewN hB.out _⟩
set_option maxRecDepth 20000 in
set_option maxHeartbeats 1000000 in
theorem word_86 (p op : Int) (o f s t d a m : Nat) (nm : ByteArray) (ho : o < 64) (hf : f < 64) (hs : s < 32) (ht : t < 32) (hd : d < 32) (ha : a < 32) (hm : m < 4294967296) (w : World) : Calls Try.prog 60 #[.agg (rwC p 86 (o : Int) (f : Int) nm), .agg (insC op (s : Int) (t : Int) (d : Int) (a : Int) (m : Int))] w fun e w' => e = .returned (.int .u32 ((wordN 86 o f s t d a m : Nat) : Int)) ∧ Below w.heap.size w w' := by
  show Calls _ _ _ _ fun e w' => e = .returned (.int .u32 ((o * 67108864 + s * 2097152 + t * 65536 + m % 65536 : Nat) : Int)) ∧ Below w.heap.size w w'
  have hB := hidden (((Below.refl w.heap.size w).alloc (Nat.le_refl _) (.cells (rwC p 86 (o : Int) (f : Int) nm) 119)).alloc (by simp) (.cells (insC op (s : Int) (t : Int) (d : Int) (a : Int) (m : Int)) 62))
  have a1 := and31n2 s hs
  have a2 := and31n2 t ht
  have a3 := and31n2 d hd
  have a4 := and31n2 a ha
  have hq := and_half m hm
  obtain ⟨q, hqq⟩ : ∃ q : Nat, m % 65536 = q := ⟨_, rfl⟩
  rw [hqq] at hq ⊢
  have hql : q < 65536 := by omega
  clear hqq
  have r1 : (s : Int) % 4294967296 = (s : Int) := by omega
  have r2 : (t : Int) % 4294967296 = (t : Int) := by omega
  have r3 : (d : Int) % 4294967296 = (d : Int) := by omega
  have r4 : (a : Int) % 4294967296 = (a : Int) := by omega
  have r5 : (o : Int) % 4294967296 = (o : Int) := by omega
  have r6 : (f : Int) % 4294967296 = (f : Int) := by omega
  go_enter Try.func60, Try.ntmps60
  go_wp2
  go_quiet (fail)
  go_wp2
  go_ret
  exact ⟨ret_int (by omega), below_drewN hB.out _⟩
set_option maxRecDepth 20000 in
set_option maxHeartbeats 1000000 in
theorem word_80 (p op : Int) (o f s t d a m : Nat) (nm : ByteArray) (ho : o < 64) (hf : f < 64) (hs : s < 32) (ht : t < 32) (hd : d < 32) (ha : a < 32) (hm : m < 4294967296) (w : World) : Calls Try.prog 60 #[.agg (rwC p 80 (o : Int) (f : Int) nm), .agg (insC op (s : Int) (t : Int) (d : Int) (a : Int) (m : Int))] w fun e w' => e = .returned (.int .u32 ((wordN 80 o f s t d a m : Nat) : Int)) ∧ Below w.heap.size w w' := by
  show Calls _ _ _ _ fun e w' => e = .returned (.int .u32 ((o * 67108864 + s * 2097152 + t * 65536 + m % 65536 : Nat) : Int)) ∧ Below w.heap.size w w'
  have hB := hidden (((Below.refl w.heap.size w).alloc (Nat.le_refl _) (.cells (rwC p 80 (o : Int) (f : Int) nm) 119)).alloc (by simp) (.cells (insC op (s : Int) (t : Int) (d : Int) (a : Int) (m : Int)) 62))
  have a1 := and31n2 s hs
  have a2 := and31n2 t ht
  have a3 := and31n2 d hd
  have a4 := and31n2 a ha
  have hq := and_half m hm
  obtain ⟨q, hqq⟩ : ∃ q : Nat, m % 65536 = q := ⟨_, rfl⟩
  rw [hqq] at hq ⊢
  have hql : q < 65536 := by omega
  clear hqq
  have r1 : (s : Int) % 4294967296 = (s : Int) := by omega
  have r2 : (t : Int) % 4294967296 = (t : Int) := by omega
  have r3 : (d : Int) % 4294967296 = (d : Int) := by omega
  have r4 : (a : Int) % 4294967296 = (a : Int) := by omega
  have r5 : (o : Int) % 4294967296 = (o : Int) := by omega
  have r6 : (f : Int) % 4294967296 = (f : Int) := by omega
  go_enter Try.func60, Try.ntmps60
  go_wp2
  go_quiet (fail)
  go_wp2
  go_ret
  exact ⟨ret_int (by omega), below_drewN hB.out _⟩
set_option maxRecDepth 20000 in
set_option maxHeartbeats 1000000 in
theorem word_66 (p op : Int) (o f s t d a m : Nat) (nm : ByteArray) (ho : o < 64) (hf : f < 64) (hs : s < 32) (ht : t < 32) (hd : d < 32) (ha : a < 32) (hm : m < 4294967296) (w : World) : Calls Try.prog 60 #[.agg (rwC p 66 (o : Int) (f : Int) nm), .agg (insC op (s : Int) (t : Int) (d : Int) (a : Int) (m : Int))] w fun e w' => e = .returned (.int .u32 ((wordN 66 o f s t d a m : Nat) : Int)) ∧ Below w.heap.size w w' := by
  show Calls _ _ _ _ fun e w' => e = .returned (.int .u32 ((o * 67108864 + s * 2097152 + t * 65536 + m / 4 % 65536 : Nat) : Int)) ∧ Below w.heap.size w w'
  have hB := hidden (((Below.refl w.heap.size w).alloc (Nat.le_refl _) (.cells (rwC p 66 (o : Int) (f : Int) nm) 119)).alloc (by simp) (.cells (insC op (s : Int) (t : Int) (d : Int) (a : Int) (m : Int)) 62))
  have a1 := and31n2 s hs
  have a2 := and31n2 t ht
  have a3 := and31n2 d hd
  have a4 := and31n2 a ha
  have hd4 : (m : Int) / 4 = ((m / 4 : Nat) : Int) := by omega
  have hq := and_half (m / 4) (by omega)
  obtain ⟨q, hqq⟩ : ∃ q : Nat, m / 4 % 65536 = q := ⟨_, rfl⟩
  rw [hqq] at hq ⊢
  rw [← hd4] at hq
  have hql : q < 65536 := by omega
  clear hqq hd4
  have r1 : (s : Int) % 4294967296 = (s : Int) := by omega
  have r2 : (t : Int) % 4294967296 = (t : Int) := by omega
  have r3 : (d : Int) % 4294967296 = (d : Int) := by omega
  have r4 : (a : Int) % 4294967296 = (a : Int) := by omega
  have r5 : (o : Int) % 4294967296 = (o : Int) := by omega
  have r6 : (f : Int) % 4294967296 = (f : Int) := by omega
  go_enter Try.func60, Try.ntmps60
  go_wp2
  go_quiet (fail)
  go_wp2
  go_ret
  exact ⟨ret_int (by omega), below_drewN hB.out _⟩
set_option maxRecDepth 20000 in
set_option maxHeartbeats 1000000 in
theorem word_90 (p op : Int) (o f s t d a m : Nat) (nm : ByteArray) (ho : o < 64) (hf : f < 64) (hs : s < 32) (ht : t < 32) (hd : d < 32) (ha : a < 32) (hm : m < 4294967296) (w : World) : Calls Try.prog 60 #[.agg (rwC p 90 (o : Int) (f : Int) nm), .agg (insC op (s : Int) (t : Int) (d : Int) (a : Int) (m : Int))] w fun e w' => e = .returned (.int .u32 ((wordN 90 o f s t d a m : Nat) : Int)) ∧ Below w.heap.size w w' := by
  show Calls _ _ _ _ fun e w' => e = .returned (.int .u32 ((o * 67108864 + s * 2097152 + t * 65536 + m / 4 % 65536 : Nat) : Int)) ∧ Below w.heap.size w w'
  have hB := hidden (((Below.refl w.heap.size w).alloc (Nat.le_refl _) (.cells (rwC p 90 (o : Int) (f : Int) nm) 119)).alloc (by simp) (.cells (insC op (s : Int) (t : Int) (d : Int) (a : Int) (m : Int)) 62))
  have a1 := and31n2 s hs
  have a2 := and31n2 t ht
  have a3 := and31n2 d hd
  have a4 := and31n2 a ha
  have hd4 : (m : Int) / 4 = ((m / 4 : Nat) : Int) := by omega
  have hq := and_half (m / 4) (by omega)
  obtain ⟨q, hqq⟩ : ∃ q : Nat, m / 4 % 65536 = q := ⟨_, rfl⟩
  rw [hqq] at hq ⊢
  rw [← hd4] at hq
  have hql : q < 65536 := by omega
  clear hqq hd4
  have r1 : (s : Int) % 4294967296 = (s : Int) := by omega
  have r2 : (t : Int) % 4294967296 = (t : Int) := by omega
  have r3 : (d : Int) % 4294967296 = (d : Int) := by omega
  have r4 : (a : Int) % 4294967296 = (a : Int) := by omega
  have r5 : (o : Int) % 4294967296 = (o : Int) := by omega
  have r6 : (f : Int) % 4294967296 = (f : Int) := by omega
  go_enter Try.func60, Try.ntmps60
  go_wp2
  go_quiet (fail)
  go_wp2
  go_ret
  exact ⟨ret_int (by omega), below_drewN hB.out _⟩
set_option maxRecDepth 20000 in
set_option maxHeartbeats 1000000 in
theorem word_82 (p op : Int) (o f s t d a m : Nat) (nm : ByteArray) (ho : o < 64) (hf : f < 32) (hs : s < 32) (ht : t < 32) (hd : d < 32) (ha : a < 32) (hm : m < 4294967296) (w : World) : Calls Try.prog 60 #[.agg (rwC p 82 (o : Int) (f : Int) nm), .agg (insC op (s : Int) (t : Int) (d : Int) (a : Int) (m : Int))] w fun e w' => e = .returned (.int .u32 ((wordN 82 o f s t d a m : Nat) : Int)) ∧ Below w.heap.size w w' := by
  show Calls _ _ _ _ fun e w' => e = .returned (.int .u32 ((o * 67108864 + s * 2097152 + f * 65536 + m / 4 % 65536 : Nat) : Int)) ∧ Below w.heap.size w w'
  have hB := hidden (((Below.refl w.heap.size w).alloc (Nat.le_refl _) (.cells (rwC p 82 (o : Int) (f : Int) nm) 119)).alloc (by simp) (.cells (insC op (s : Int) (t : Int) (d : Int) (a : Int) (m : Int)) 62))
  have a1 := and31n2 s hs
  have a2 := and31n2 t ht
  have a3 := and31n2 d hd
  have a4 := and31n2 a ha
  have hd4 : (m : Int) / 4 = ((m / 4 : Nat) : Int) := by omega
  have hq := and_half (m / 4) (by omega)
  obtain ⟨q, hqq⟩ : ∃ q : Nat, m / 4 % 65536 = q := ⟨_, rfl⟩
  rw [hqq] at hq ⊢
  rw [← hd4] at hq
  have hql : q < 65536 := by omega
  clear hqq hd4
  have r1 : (s : Int) % 4294967296 = (s : Int) := by omega
  have r2 : (t : Int) % 4294967296 = (t : Int) := by omega
  have r3 : (d : Int) % 4294967296 = (d : Int) := by omega
  have r4 : (a : Int) % 4294967296 = (a : Int) := by omega
  have r5 : (o : Int) % 4294967296 = (o : Int) := by omega
  have r6 : (f : Int) % 4294967296 = (f : Int) := by omega
  go_enter Try.func60, Try.ntmps60
  go_wp2
  go_quiet (fail)
  go_wp2
  go_ret
  exact ⟨ret_int (by omega), below_drewN hB.out _⟩
set_option maxRecDepth 20000 in
set_option maxHeartbeats 1000000 in
theorem word_74 (p op : Int) (o f s t d a m : Nat) (nm : ByteArray) (ho : o < 64) (hf : f < 64) (hs : s < 32) (ht : t < 32) (hd : d < 32) (ha : a < 32) (hm : m < 4294967296) (w : World) : Calls Try.prog 60 #[.agg (rwC p 74 (o : Int) (f : Int) nm), .agg (insC op (s : Int) (t : Int) (d : Int) (a : Int) (m : Int))] w fun e w' => e = .returned (.int .u32 ((wordN 74 o f s t d a m : Nat) : Int)) ∧ Below w.heap.size w w' := by
  show Calls _ _ _ _ fun e w' => e = .returned (.int .u32 ((o * 67108864 + m / 4 % 67108864 : Nat) : Int)) ∧ Below w.heap.size w w'
  have hB := hidden (((Below.refl w.heap.size w).alloc (Nat.le_refl _) (.cells (rwC p 74 (o : Int) (f : Int) nm) 119)).alloc (by simp) (.cells (insC op (s : Int) (t : Int) (d : Int) (a : Int) (m : Int)) 62))
  have a1 := and31n2 s hs
  have a2 := and31n2 t ht
  have a3 := and31n2 d hd
  have a4 := and31n2 a ha
  have hd4 : (m : Int) / 4 = ((m / 4 : Nat) : Int) := by omega
  have hq := and_26 (m / 4) (by omega)
  obtain ⟨q, hqq⟩ : ∃ q : Nat, m / 4 % 67108864 = q := ⟨_, rfl⟩
  rw [hqq] at hq ⊢
  rw [← hd4] at hq
  have hql : q < 67108864 := by omega
  clear hqq hd4
  have r1 : (s : Int) % 4294967296 = (s : Int) := by omega
  have r2 : (t : Int) % 4294967296 = (t : Int) := by omega
  have r3 : (d : Int) % 4294967296 = (d : Int) := by omega
  have r4 : (a : Int) % 4294967296 = (a : Int) := by omega
  have r5 : (o : Int) % 4294967296 = (o : Int) := by omega
  have r6 : (f : Int) % 4294967296 = (f : Int) := by omega
  go_enter Try.func60, Try.ntmps60
  go_wp2
  go_quiet (fail)
  go_wp2
  go_ret
  exact ⟨ret_int (by omega), below_drewN hB.out _⟩
end Go.Proofs.Ytobnocioefchlaa
