/- What the own answer of chapter 3 to Get is, walked over its text. -/
import Derived.Test.YtokicdmbibbkpaaGets
namespace Go.Proofs.Ytokicdmbibbkpaa
open Go.ChangeShapes Go.WideShapes Go.ChangeAt Go.RowKit
set_option linter.unusedVariables false
theorem refGetOut_any (ao : Option Addr) (cap : Nat) (l : List UInt8) (at_ : Int) (w : World) (h : at_ < 0 ∨ (l.length : Int) < at_) (hlen : l.length ≤ 140737488355328) :
    Calls Try.prog 12 #[.slice ao l.length cap, .int .i64 at_] w fun e w' => e = .returned (tup (getI l at_)) ∧ w' = w := by
  rw [getI_out h]
  by_cases h0 : at_ < 0
  · go_enter Try.func12, Try.ntmps12
    go_wp2
    go_ret3
    exact ⟨rfl, rfl⟩
  · have h1 : (l.length : Int) < at_ := by omega
    go_enter Try.func12, Try.ntmps12
    go_wp2
    go_ret3
    exact ⟨rfl, rfl⟩
theorem added {j x acc : Nat} (h9 : j ≤ 9) (h1 : ¬ (j = 9 ∧ 1 < x)) (ha : acc < 2 ^ (7 * j)) :
    IntKind.u64.wrap ((acc : Int) + IntKind.u64.wrap ((x : Int) % 128 * 2 ^ (7 * j))) = ((acc + x % 128 * 2 ^ (7 * j) : Nat) : Int) := by
  have h2 := sum_lt h9 h1 ha
  rw [shifted h9 h1, IntKind.wrap_u64]
  have e : (acc : Int) + ((x % 128 * 2 ^ (7 * j) : Nat) : Int) = ((acc + x % 128 * 2 ^ (7 * j) : Nat) : Int) := by rw [Int.natCast_add]
  rw [e]
  omega
set_option maxRecDepth 20000 in
set_option maxHeartbeats 4000000 in
theorem refGetIn_any (ao : Option Addr) (cap : Nat) (l : List UInt8) (k : Nat) (hk : k ≤ l.length) (w : World) (hlen : l.length ≤ 140737488355328) (hl : Row w ao l cap) :
    Calls Try.prog 12 #[.slice ao l.length cap, .int .i64 (k : Int)] w fun e w' => e = .returned (tup (getI l (k : Int))) ∧ w' = w := by
  rw [getI_in (by omega)]
  have HL := hidden hl
  clear hl
  generalize hR : dec k 0 0 (l.drop k) = R
  have HR := hidden hR
  clear hR
  go_enter Try.func12, Try.ntmps12
  go_wp2
  go_loop [7, 8] (fun v i => ∃ j acc : Nat, j ≤ 9 ∧ j ≤ l.length - k ∧ i = .int .i64 (j : Int) ∧ v = .int .u64 (acc : Int) ∧ acc < 2 ^ (7 * j) ∧ dec k j acc (l.drop (k + j)) = R) (fun _ i => 11 - (intOf i).toNat)
  case atStart => exact ⟨0, 0, by omega, by omega, rfl, rfl, by simp, HR⟩
  case round =>
    obtain ⟨j, acc, hj9, hjl, rfl, rfl, ha, hd⟩ := hrel
    have HA := hidden ha
    have HD := hidden hd
    clear ha hd HR
    by_cases hjn : j < l.length - k
    · obtain ⟨b, off, rfl, hc⟩ : ∃ b off, ao = some ⟨b, off, none⟩ ∧ ∀ j, j < l.length → w.cell? ⟨b, off + j, none⟩ = some (.int .u8 ((l.getD j 0).toNat : Int)) := by
        rcases (Row.lies (Hid.out HL)) with h | h
        · subst h; simp at hjn
        · exact h
      have hcl := hc (k + j) (by omega)
      have hx := (l.getD (k + j) 0).toNat_lt
      clear hc
      generalize hX : (l.getD (k + j) 0).toNat = x at hcl hx
      have HD2 := hidden (dec_at (by omega) hX (Hid.out HD))
      clear hX HD
      by_cases c1 : j = 9 ∧ 1 < x
      · have hR : R = (0, 0, 4) := by have h := Hid.out HD2; rw [if_pos c1] at h; exact h
        obtain ⟨rfl, hx1⟩ := c1
        clear HD2
        go_wp2
        go_ret3
        exact ⟨rfl, rfl⟩
      · have hor := added hj9 c1 (Hid.out HA)
        have hal := hidden (acc_lt (x := x) (Hid.out HA))
        have hs64 := sum_lt hj9 c1 (Hid.out HA)
        have h' := Hid.out HD2
        rw [if_neg c1] at h'
        generalize acc + x % 128 * 2 ^ (7 * j) = acc2 at hor hal h' hs64
        have HD3 := hidden h'
        clear h' HD2
        by_cases c2 : 128 ≤ x
        · have hj8 : ¬ j = 9 := by omega
          have h' := Hid.out HD3
          rw [if_pos c2] at h'
          have HD4 := hidden h'.symm
          clear h' HD3 c1
          go_wp2
          refine ⟨⟨_, _, _, .int .u64 (acc2 : Int), .int .i64 ((j : Int) + 1), ⟨j + 1, by omega, by omega, by go_num, acc2, rfl, hal, HD4⟩, rfl, rfl, rfl, rfl, rfl⟩, by simp [intOf]; omega⟩
        · by_cases c3 : x = 0 ∧ 0 < j
          · have hR : R = (0, 0, 4) := by have h := Hid.out HD3; rw [if_neg c2, if_pos c3] at h; exact h
            obtain ⟨rfl, hj0⟩ := c3
            clear HD3
            by_cases hj8 : j = 9
            · subst hj8
              go_wp2
              go_ret3
              exact ⟨rfl, rfl⟩
            · go_wp2
              go_ret3
              exact ⟨rfl, rfl⟩
          · have hR : R = (acc2, k + j + 1, 0) := by have h := Hid.out HD3; rw [if_neg c2, if_neg c3] at h; exact h
            clear HD3
            by_cases hj8 : j = 9
            · subst hj8
              have hx0 : ¬ x = 0 := by omega
              have hx1 : x ≤ 1 := by omega
              have hor9 : IntKind.u64.wrap ((acc : Int) + (x : Int) % 128 * 9223372036854775808) = (acc2 : Int) := by
                rw [← hor, IntKind.wrap_u64, IntKind.wrap_u64, IntKind.wrap_u64]
                have e : (2 : Int) ^ (7 * 9) = 9223372036854775808 := by decide
                rw [e]
                omega
              have hor8 : (acc : Int) + (x : Int) % 128 * 9223372036854775808 = (acc2 : Int) := by
                rw [IntKind.wrap_u64] at hor9
                have ha : acc < 9223372036854775808 := by simpa using Hid.out HA
                omega
              clear c1 c3
              go_wp2
              go_ret3
              exact ⟨rfl, rfl⟩
            · by_cases hx0 : x = 0
              · have hj0 : j = 0 := by omega
                subst hj0
                subst hx0
                have ha0 : acc = 0 := by have h := Hid.out HA; simp at h; omega
                subst ha0
                have ha2 : acc2 = 0 := by
                  simp at hor
                  have hw0 : IntKind.u64.wrap 0 = 0 := by decide
                  rw [hw0] at hor
                  omega
                subst ha2
                have hcl0 : w.cell? ⟨b, off + k, none⟩ = some (.int .u8 0) := hcl
                clear c1 c3 hor hcl
                go_wp2
                go_ret3
                exact ⟨rfl, rfl⟩
              · clear c1 c3
                go_wp2
                go_ret3
                exact ⟨rfl, rfl⟩
    · have hje : j = l.length - k := by omega
      have hR : R = (0, 0, 3) := by
        have h := Hid.out HD
        rw [hje, show k + (l.length - k) = l.length by omega, List.drop_length] at h
        rw [← h]
        rfl
      clear HD
      go_wp2
      go_ret3
      exact ⟨rfl, rfl⟩
theorem refGet_any (ao : Option Addr) (cap : Nat) (l : List UInt8) (at_ : Int) (w : World) (hl : Row w ao l cap) (hlen : l.length ≤ 140737488355328) :
    Calls Try.prog 12 #[.slice ao l.length cap, .int .i64 at_] w fun e w' => e = .returned (tup (getI l at_)) ∧ w' = w := by
  by_cases h : at_ < 0 ∨ (l.length : Int) < at_
  · exact refGetOut_any ao cap l at_ w h hlen
  · obtain ⟨k, rfl⟩ := Int.eq_ofNat_of_zero_le (show 0 ≤ at_ by omega)
    exact refGetIn_any ao cap l k (by omega) w hlen hl
end Go.Proofs.Ytokicdmbibbkpaa
