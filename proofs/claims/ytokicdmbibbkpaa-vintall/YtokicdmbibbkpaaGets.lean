/- What Get answers, walked over its text. -/
import Derived.Test.YtokicdmbibbkpaaBase
namespace Go.Proofs.Ytokicdmbibbkpaa
open Go.ChangeShapes Go.WideShapes Go.ChangeAt Go.RowKit
set_option linter.unusedVariables false
/-- Three numbers, as Get answers them. -/
def tup (r : Nat × Nat × Nat) : Value := .tuple #[.int .u64 (r.1 : Int), .int .i64 (r.2.1 : Int), .int .i64 (r.2.2 : Int)]
theorem getI_out {l : List UInt8} {at_ : Int} (h : at_ < 0 ∨ (l.length : Int) < at_) : getI l at_ = (0, 0, 1) := by unfold getI; rw [if_pos h]
theorem getI_in {l : List UInt8} {k : Nat} (h : k ≤ l.length) : getI l (k : Int) = dec k 0 0 (l.drop k) := by unfold getI; rw [if_neg (by omega), Int.toNat_natCast]
theorem getOut_any (ao : Option Addr) (cap : Nat) (l : List UInt8) (at_ : Int) (w : World) (h : at_ < 0 ∨ (l.length : Int) < at_) (hlen : l.length ≤ 140737488355328) :
    Calls Try.prog 11 #[.slice ao l.length cap, .int .i64 at_] w fun e w' => e = .returned (tup (getI l at_)) ∧ w' = w := by
  rw [getI_out h]
  by_cases h0 : at_ < 0
  · go_enter Try.func11, Try.ntmps11
    go_wp2
    go_ret3
    exact ⟨rfl, rfl⟩
  · have h1 : (l.length : Int) < at_ := by omega
    go_enter Try.func11, Try.ntmps11
    go_wp2
    go_ret3
    exact ⟨rfl, rfl⟩
theorem getEnd_any (ao : Option Addr) (cap : Nat) (l : List UInt8) (w : World) (hl : l.length ≤ cap) (hcap : cap ≤ 9223372036854775807) (hlen : l.length ≤ 140737488355328) :
    Calls Try.prog 11 #[.slice ao l.length cap, .int .i64 (l.length : Int)] w fun e w' => e = .returned (tup (getI l (l.length : Int))) ∧ w' = w := by
  rw [getI_in (Nat.le_refl _), List.drop_length]
  by_cases hc : cap = l.length
  · go_enter Try.func11, Try.ntmps11
    go_wp2
    go_rounds 1
    go_ret3
    exact ⟨rfl, rfl⟩
  · go_enter Try.func11, Try.ntmps11
    go_wp2
    go_rounds 1
    go_ret3
    exact ⟨rfl, rfl⟩
theorem piece_lt {j x : Nat} (h9 : j ≤ 9) (h1 : ¬ (j = 9 ∧ 1 < x)) : x % 128 * 2 ^ (7 * j) < 18446744073709551616 := by
  by_cases h : j = 9
  · subst h
    have hx : x % 128 ≤ 1 := by omega
    have := Nat.mul_le_mul_right (2 ^ (7 * 9)) hx
    have e : (2 : Nat) ^ (7 * 9) = 9223372036854775808 := by decide
    rw [e] at this ⊢
    omega
  · have hj : 7 * j ≤ 56 := by omega
    have h2 : (2 : Nat) ^ (7 * j) ≤ 2 ^ 56 := Nat.pow_le_pow_right (by omega) hj
    have h3 := Nat.mul_le_mul (show x % 128 ≤ 127 by omega) h2
    have e : (2 : Nat) ^ 56 = 72057594037927936 := by decide
    rw [e] at h3
    omega
theorem acc_lt {j x acc : Nat} (ha : acc < 2 ^ (7 * j)) : acc + x % 128 * 2 ^ (7 * j) < 2 ^ (7 * (j + 1)) := by
  have e : (2 : Nat) ^ (7 * (j + 1)) = 128 * 2 ^ (7 * j) := by rw [show 7 * (j + 1) = 7 + 7 * j by omega, Nat.pow_add]
  have h := Nat.mul_le_mul_right (2 ^ (7 * j)) (show x % 128 + 1 ≤ 128 by omega)
  rw [Nat.add_mul, Nat.one_mul] at h
  omega
theorem sum_lt {j x acc : Nat} (h9 : j ≤ 9) (h1 : ¬ (j = 9 ∧ 1 < x)) (ha : acc < 2 ^ (7 * j)) : acc + x % 128 * 2 ^ (7 * j) < 18446744073709551616 := by
  by_cases h : j = 9
  · subst h
    have hx : x % 128 ≤ 1 := by omega
    have h3 := Nat.mul_le_mul_right (2 ^ (7 * 9)) hx
    have e : (2 : Nat) ^ (7 * 9) = 9223372036854775808 := by decide
    rw [e] at ha h3 ⊢
    omega
  · have h2 := acc_lt (x := x) ha
    have h3 : (2 : Nat) ^ (7 * (j + 1)) ≤ 2 ^ 63 := Nat.pow_le_pow_right (by omega) (by omega)
    have e : (2 : Nat) ^ 63 = 9223372036854775808 := by decide
    rw [e] at h3
    omega
theorem shifted {j x : Nat} (h9 : j ≤ 9) (h1 : ¬ (j = 9 ∧ 1 < x)) : IntKind.u64.wrap ((x : Int) % 128 * 2 ^ (7 * j)) = ((x % 128 * 2 ^ (7 * j) : Nat) : Int) := by
  have h := piece_lt h9 h1
  rw [IntKind.wrap_u64]
  have e : (x : Int) % 128 * 2 ^ (7 * j) = ((x % 128 * 2 ^ (7 * j) : Nat) : Int) := by simp
  rw [e]
  omega
theorem joined {j x acc : Nat} (h9 : j ≤ 9) (h1 : ¬ (j = 9 ∧ 1 < x)) (ha : acc < 2 ^ (7 * j)) :
    bits .or .u64 (acc : Int) (IntKind.u64.wrap ((x : Int) % 128 * 2 ^ (j * 7))) = ((acc + x % 128 * 2 ^ (7 * j) : Nat) : Int) := by
  have h := piece_lt h9 h1
  have h2 := sum_lt h9 h1 ha
  rw [Nat.mul_comm j 7, shifted h9 h1, u64_or _ _ (by omega) (by omega) (by omega) (by omega), Int.toNat_natCast, Int.toNat_natCast]
  congr 1
  have e := Nat.two_pow_add_eq_or_of_lt ha (x % 128)
  rw [Nat.mul_comm (2 ^ (7 * j))] at e
  rw [Nat.or_comm, ← e, Nat.add_comm]
theorem drop_at {l : List UInt8} {k : Nat} (h : k < l.length) : l.drop k = l.getD k 0 :: l.drop (k + 1) := by
  rw [List.drop_eq_getElem_cons h]
  simp [List.getD_eq_getElem?_getD, List.getElem?_eq_getElem h]
theorem dec_at {l : List UInt8} {k j acc x : Nat} {R : Nat × Nat × Nat} (h : k + j < l.length) (hx : (l.getD (k + j) 0).toNat = x) (hd : dec k j acc (l.drop (k + j)) = R) :
    R = (if j = 9 ∧ 1 < x then (0, 0, 4) else if 128 ≤ x then dec k (j + 1) (acc + x % 128 * 2 ^ (7 * j)) (l.drop (k + (j + 1))) else if x = 0 ∧ 0 < j then (0, 0, 4) else (acc + x % 128 * 2 ^ (7 * j), k + j + 1, 0)) := by
  rw [← hd, drop_at h, dec, hx]
  rfl
set_option maxRecDepth 20000 in
set_option maxHeartbeats 4000000 in
theorem getIn_any (b off cap : Nat) (l : List UInt8) (k : Nat) (hk : k < l.length) (w : World) (hl : l.length ≤ cap) (hcap : cap ≤ 9223372036854775807) (hlen : l.length ≤ 140737488355328)
    (hc : ∀ j, j < l.length → w.cell? ⟨b, off + j, none⟩ = some (.int .u8 ((l.getD j 0).toNat : Int))) :
    Calls Try.prog 11 #[.slice (some ⟨b, off, none⟩) l.length cap, .int .i64 (k : Int)] w fun e w' => e = .returned (tup (getI l (k : Int))) ∧ w' = w := by
  rw [getI_in (by omega)]
  have HC := hidden hc
  clear hc
  have hck : ¬ cap = k := by omega
  generalize hR : dec k 0 0 (l.drop k) = R
  have HR := hidden hR
  clear hR
  go_enter Try.func11, Try.ntmps11
  go_wp2
  go_loop [7, 22] (fun v i => ∃ j acc : Nat, j ≤ 9 ∧ j ≤ l.length - k ∧ i = .int .i64 (j : Int) ∧ v = .int .u64 (acc : Int) ∧ acc < 2 ^ (7 * j) ∧ dec k j acc (l.drop (k + j)) = R) (fun _ i => 11 - (intOf i).toNat)
  case atStart => exact ⟨0, 0, by omega, by omega, rfl, rfl, by simp, HR⟩
  case round =>
    obtain ⟨j, acc, hj9, hjl, rfl, rfl, ha, hd⟩ := hrel
    have HA := hidden ha
    have HD := hidden hd
    clear ha hd HR
    by_cases hjn : j < l.length - k
    · have hcl := (Hid.out HC) (k + j) (by omega)
      have hx := (l.getD (k + j) 0).toNat_lt
      rw [← Nat.add_assoc] at hcl
      generalize hX : (l.getD (k + j) 0).toNat = x at hcl hx
      have HD2 := hidden (dec_at (by omega) hX (Hid.out HD))
      clear hX HD
      by_cases c1 : j = 9 ∧ 1 < x
      · have hR : R = (0, 0, 4) := by have h := Hid.out HD2; rw [if_pos c1] at h; exact h
        obtain ⟨rfl, hx1⟩ := c1
        clear HD2
        go_wp2
        go_ret3
        exact ⟨rfl, rfl⟩
      · have hor := joined hj9 c1 (Hid.out HA)
        have hal := hidden (acc_lt (x := x) (Hid.out HA))
        have h' := Hid.out HD2
        rw [if_neg c1] at h'
        generalize acc + x % 128 * 2 ^ (7 * j) = acc2 at hor hal h'
        have HD3 := hidden h'
        clear h' HD2
        by_cases c2 : 128 ≤ x
        · have hj8 : ¬ j = 9 := by omega
          have h' := Hid.out HD3
          rw [if_pos c2] at h'
          have HD4 := hidden h'.symm
          clear h' HD3 c1
          go_wp2
          refine ⟨⟨_, _, _, .int .u64 (acc2 : Int), .int .i64 (j : Int), .int .u8 (x : Int), .int .i64 ((j : Int) + 1), ⟨j + 1, by omega, by omega, by go_num, acc2, rfl, hal, HD4⟩, rfl, rfl, rfl, rfl, rfl, rfl, rfl⟩, by simp [intOf]; omega⟩
        · by_cases c3 : x = 0 ∧ 0 < j
          · have hR : R = (0, 0, 4) := by have h := Hid.out HD3; rw [if_neg c2, if_pos c3] at h; exact h
            obtain ⟨rfl, hj0⟩ := c3
            clear HD3
            by_cases hj8 : j = 9
            · subst hj8
              go_wp2
              go_ret3
              exact ⟨rfl, rfl⟩
            · go_wp2
              go_ret3
              exact ⟨rfl, rfl⟩
          · have hR : R = (acc2, k + j + 1, 0) := by have h := Hid.out HD3; rw [if_neg c2, if_neg c3] at h; exact h
            clear HD3
            by_cases hj8 : j = 9
            · subst hj8
              have hx0 : ¬ x = 0 := by omega
              have hx1 : x ≤ 1 := by omega
              have hor9 : bits .or .u64 (acc : Int) ((x : Int) % 128 * 9223372036854775808) = (acc2 : Int) := by
                rw [← hor, IntKind.wrap_u64]
                have e : (2 : Int) ^ (9 * 7) = 9223372036854775808 := by decide
                rw [e]
                congr 1
                omega
              clear c1 c3
              go_wp2
              go_ret3
              exact ⟨rfl, rfl⟩
            · by_cases hx0 : x = 0
              · have hj0 : j = 0 := by omega
                subst hj0
                subst hx0
                have ha0 : acc = 0 := by have h := Hid.out HA; simp at h; omega
                subst ha0
                have hz0 : bits .or .u64 0 0 = 0 := by decide
                have ha2 : acc2 = 0 := by
                  simp at hor
                  have hw0 : IntKind.u64.wrap 0 = 0 := by decide
                  rw [hw0, hz0] at hor
                  omega
                subst ha2
                have hcl0 : w.cell? ⟨b, off + k, none⟩ = some (.int .u8 0) := hcl
                clear c1 c3 hor hcl
                go_wp2
                go_ret3
                exact ⟨rfl, rfl⟩
              · clear c1 c3
                go_wp2
                go_ret3
                exact ⟨rfl, rfl⟩
    · have hje : j = l.length - k := by omega
      have hR : R = (0, 0, 3) := by
        have h := Hid.out HD
        rw [hje, show k + (l.length - k) = l.length by omega, List.drop_length] at h
        rw [← h]
        rfl
      clear HD
      go_wp2
      go_ret3
      exact ⟨rfl, rfl⟩
theorem get_any (ao : Option Addr) (cap : Nat) (l : List UInt8) (at_ : Int) (w : World) (hl : Row w ao l cap) (hlen : l.length ≤ 140737488355328) :
    Calls Try.prog 11 #[.slice ao l.length cap, .int .i64 at_] w fun e w' => e = .returned (tup (getI l at_)) ∧ w' = w := by
  by_cases h : at_ < 0 ∨ (l.length : Int) < at_
  · exact getOut_any ao cap l at_ w h hlen
  · obtain ⟨k, rfl⟩ := Int.eq_ofNat_of_zero_le (show 0 ≤ at_ by omega)
    by_cases hk : k = l.length
    · subst hk
      exact getEnd_any ao cap l w hl.len hl.max hlen
    · rcases hl.lies with rfl | ⟨b, off, rfl, hc⟩
      · simp at h hk; omega
      · exact getIn_any b off cap l k (by omega) w hl.len hl.max hlen hc
end Go.Proofs.Ytokicdmbibbkpaa
